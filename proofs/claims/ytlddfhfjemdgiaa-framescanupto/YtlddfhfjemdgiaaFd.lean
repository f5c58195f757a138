/- frame.Scan. -/
import Derived.Test.YtlddfhfjemdgiaaFc
import Derived.Test.YtlddfhfjemdgiaaApart
import Derived.WalkMore
namespace Go.Proofs.Ytlddfhfjemdgiaa
open Go.RowKit
set_option linter.unusedVariables false

/-- The lists of a row. -/
def lsts (r : List Bw) : List (List Int) := r.map Bw.l

theorem lsts_len (r : List Bw) : (lsts r).length = r.length := List.length_map ..
theorem lsts_app (r : List Bw) (a : Bw) : lsts (r ++ [a]) = lsts r ++ [a.l] := by simp [lsts]

/-- Gathered so far. -/
def Got (bs : List Int) (r : List Bw) : Prop := (∀ a ∈ r, a.l.length ≤ 131072) ∧ Fm.cat (lsts r) <+: bs

theorem Got.nil (bs : List Int) : Got bs [] := ⟨by simp, by simp [lsts, Fm.cat]⟩

theorem Got.next {bs z : List Int} {r : List Bw} {n : Nat} {v : Value} (h : Got bs r) (hr : Fm.Rd (bs.drop (Fm.cat (lsts r)).length) z n 0) : Got bs (r ++ [⟨v, z⟩]) ∧ (Fm.cat (lsts (r ++ [⟨v, z⟩]))).length = (Fm.cat (lsts r)).length + n ∧ 1 ≤ n ∧ z.length ≤ 131072 := by
  rcases hr with ⟨_, h1, h2, h3⟩ | ⟨h0, _⟩
  · obtain ⟨g1, g2⟩ := Fm.sc_next h.2 h3
    have e : lsts (r ++ [⟨v, z⟩]) = lsts r ++ [z] := lsts_app r ⟨v, z⟩
    rw [e]
    have hz := Vm.sz_pos z.length
    refine ⟨⟨fun a ha => ?_, by rw [e]; exact g1⟩, by omega, by omega, h1⟩
    rcases List.mem_append.1 ha with ha | ha
    · exact h.1 a ha
    · simp at ha
      subst ha
      exact h1
  · cases h0

theorem Got.le {bs : List Int} {r : List Bw} (h : Got bs r) : (Fm.cat (lsts r)).length ≤ bs.length ∧ r.length ≤ (Fm.cat (lsts r)).length := by
  refine ⟨h.2.length_le, ?_⟩
  have := Fm.cat_len (lsts r)
  rw [lsts_len] at this
  exact this

theorem Got.done {bs z : List Int} {r : List Bw} {n : Nat} (h : Got bs r) (hr : Fm.Rd (bs.drop (Fm.cat (lsts r)).length) z n 5) : Fm.Sc bs (lsts r) := by
  rcases hr with ⟨h0, _⟩ | ⟨_, _, _, h3⟩
  · cases h0
  · refine ⟨fun q hq => ?_, h.2, h3⟩
    obtain ⟨a, ha, rfl⟩ := List.mem_map.1 hq
    exact h.1 a ha

set_option maxHeartbeats 2000000 in
theorem scan_any (vb : Value) (bs : List Int) (w : World) (hb : Is .u8 w vb bs) (hl : bs.length ≤ 5000000000000) :
    Calls Try.prog 9 #[vb] w fun E w' => ∃ (v : Value) (r : List Bw), E = .returned (.tuple #[v, .int .i64 (Fm.cat (lsts r)).length]) ∧ OwnB w.heap.size w' v r ∧ Below w.heap.size w w' ∧ Hid (Fm.Sc bs (lsts r)) := by
  have HB := hide hb
  clear hb
  go_enter Try.func9, Try.ntmps9
  go_wp2
  go_step3
  go_wp2
  go_step3
  go_wp2
  go_loopw [4, 5] (fun rv gv wr => ∃ (r : List Bw) (g : Nat), gv = .int .i64 g ∧ Hid (g = (Fm.cat (lsts r)).length) ∧ g ≤ bs.length ∧ Hid (OwnB w.heap.size wr rv r) ∧ Below w.heap.size w wr ∧ Hid (Got bs r)) (fun _ gv _ => bs.length - (intOf gv).toNat)
  case atStart => exact ⟨[], 0, rfl, hide rfl, by omega, hide (OwnB.nil _ _), Below.refl _ _, hide (Got.nil bs)⟩
  case round =>
    obtain ⟨r, g, rfl, hg, hgl, OW, bel, GO⟩ := hrel
    have szr := bel.size
    obtain ⟨vs, hsl, isl⟩ := (HB.out.below bel).slice_l Try.elemP Try.sizeP g hgl
    have HR := hide (fread_any vs _ wr isl (by rw [List.length_drop]; omega))
    clear isl
    go_wp2_with fail
    refine HR.out.mono ?_
    rintro E w1 ⟨v1, z, n, e, rfl, own1, bel1, R⟩
    clear HR hsl
    have he : e = 0 ∨ e = 5 := by
      rcases R.out with h | h
      · exact .inl h.1
      · exact .inr h.1
    rcases he with rfl | rfl
    · have R2 := R.out
      rw [hg.out] at R2
      obtain ⟨g1, g2, g3, g4⟩ := GO.out.next (v := v1) R2
      have gle := g1.le
      rw [← hg.out] at g2
      have hrl : r.length < bs.length := by
        have := gle.2
        rw [List.length_append] at this
        simp at this
        have := gle.1
        omega
      have G1 := hide g1
      obtain ⟨zo, zc, hv, _, _⟩ := own1.is.shape
      have hgn : g + n ≤ bs.length := by omega
      have G2 := hide g2
      have e1 : IntKind.i64.wrap ((g : Int) + (n : Int)) = (g : Int) + n := wrap_i64_small _ (by omega) (by omega)
      obtain ⟨w2, hw2, sz2, bel2, rown⟩ := rows_step bwc 1 bwc_len 22 w1 #[v1] 1 [⟨v1, z⟩] rfl rfl (by unfold maxLen; omega)
      have OW1 := OW.out.below bel1
      have OW2 := hide (OW1.below bel2)
      have b12 := bel1.trans (bel2.mono bel1.size)
      have O1 := hide (own1.below bel2)
      have sz1 := bel1.size
      have hlen : (r.length + 1) * 24 ≤ 140737488355328 := by omega
      have his := rown.row
      have hone := bwc_one [⟨v1, z⟩] (fun a ha => by simp at ha; subst ha; exact ⟨_, _, _, hv⟩)
      have X := hide (fun ty => run_append_rows_at (P := Try.prog) (w := w2) 26 ty bwc 1 24 bwc_len (by decide) (by decide) (.slice none 0 0) rfl 22 w.heap.size Try.underlying26 Try.info22 u4 r OW2.out.row _ [⟨v1, z⟩] his hone hlen (by omega))
      rw [hv] at X hw2
      clear R2 g1 g2 gle own1 bel1 bel2 rown his hone OW1 GO R
      go_wp2_with (at_builtin; refine wpList_append_at rfl (.tmp 20) (.tmp 22) 26 rfl _ _ rfl rfl X.out ?_)
      intro v3 w3 own3 gr3 _
      rw [← hv] at own3
      have fin := hide (OW.out.app b12 (by omega) (a := ⟨v1, z⟩) O1.out own3 gr3)
      have b3 : Below w.heap.size w w3 := (bel.trans (b12.mono szr)).grown gr3 (by omega) (fun k hk => (OW.out.row.lt k hk).1)
      clear own3 gr3 OW OW2 O1 b12 X
      go_wp2
      go_roundw
      case rel => exact ⟨r ++ [⟨v1, z⟩], g + n, by go_num, hide G2.out.symm, hgn, fin, b3, G1⟩
      case measure => simp [intOf]; omega
    · have R2 := R.out
      rw [hg.out] at R2
      have D := hide (GO.out.done R2)
      have OW1 := hide (OW.out.below bel1)
      have b3 : Below w.heap.size w w1 := bel.trans (bel1.mono szr)
      clear R2 R GO OW own1 bel1 bel
      go_wp2
      try rw [Exit.noGoto_ret]
      go_ret2
      exact ⟨_, r, by rw [hg.out]; rfl, OW1.out, b3, D⟩

set_option maxHeartbeats 2000000 in
/-- The statement's own: are two rows the same? -/
theorem records_any (va vb : Value) (r s : List Bw) (w : World) (ha : IsBB w va r) (hb : IsBB w vb s) (hl : ∀ a ∈ r, a.l.length ≤ 140737488351232) (hl' : ∀ a ∈ s, a.l.length ≤ 140737488351232) (hn : r.length ≤ 140737488351232) (hn' : s.length ≤ 140737488351232) :
    Calls Try.prog 19 #[va, vb] w fun E w' => E = .returned (.bool (decide (lsts r = lsts s))) ∧ ∃ m, w' = w.drewN m := by
  obtain ⟨ao, ac, hva, _, _⟩ := ha.1.shape
  obtain ⟨bo, bc, hvb, _, _⟩ := hb.1.shape
  have HA := hide ha
  have HB := hide hb
  subst hva hvb
  clear ha hb
  by_cases hlen : r.length = s.length
  · obtain ⟨n, hrn⟩ : ∃ n, r.length = n := ⟨_, rfl⟩
    have hsn : s.length = n := by omega
    rw [hsn, hrn]
    have HRN := hide hrn
    have HSN := hide hsn
    have hnn : n ≤ 140737488351232 := by omega
    have HL := hide hl
    have HL' := hide hl'
    clear hrn hsn hlen hn hn' hl hl'
    go_enter Try.func19, Try.ntmps19
    go_wp2
    go_loopw [5] (fun iv wr => ∃ k : Nat, k ≤ n ∧ iv = .int .i64 k ∧ Hid ((lsts r).take k = (lsts s).take k) ∧ Hid (∃ m, wr = w.drewN m)) (fun iv _ => n - (intOf iv).toNat)
    case atStart => exact ⟨0, by omega, rfl, hide (by simp), hide ⟨0, rfl⟩⟩
    case round =>
      obtain ⟨k, hk, rfl, HT, HW⟩ := hrel
      have bel : Hid (Below w.heap.size w wr) := hide (by obtain ⟨m, hm⟩ := HW.out; rw [hm]; exact below_drewN (Below.refl _ _) m)
      by_cases hlt : k < n
      · obtain ⟨b1, f1, c1, hv1, _, _, hB1, hc1⟩ := (HA.out.below bel.out).full (by rw [HRN.out]; omega)
        obtain ⟨b2, f2, c2, hv2, _, _, hB2, hc2⟩ := (HB.out.below bel.out).full (by rw [HSN.out]; omega)
        rw [HRN.out] at hv1
        rw [HSN.out] at hv2
        simp only [Value.slice.injEq, true_and] at hv1 hv2
        obtain ⟨rfl, rfl⟩ := hv1
        obtain ⟨rfl, rfl⟩ := hv2
        have hkr : k < r.length := by rw [HRN.out]; exact hlt
        have hks : k < s.length := by rw [HSN.out]; exact hlt
        obtain ⟨a, ha⟩ : ∃ a, r[k]? = some a := ⟨r[k], by rw [List.getElem?_eq_getElem]⟩
        obtain ⟨b, hb⟩ : ∃ b, s[k]? = some b := ⟨s[k], by rw [List.getElem?_eq_getElem]⟩
        have e1 := hc1 k a ha
        have e2 := hc2 k b hb
        have l1 := HL.out a (List.mem_of_getElem? ha)
        have l2 := HL'.out b (List.mem_of_getElem? hb)
        have i1 := ((HA.out.below bel.out).2 a (List.mem_of_getElem? ha)).drewN 1
        have i2 := ((HB.out.below bel.out).2 b (List.mem_of_getElem? hb)).drewN 1
        have SB := hide (same_quiet a.v b.v a.l b.l _ i1 i2 (by omega) (by omega))
        have KA : Hid ((lsts r)[k]? = some a.l) := hide (by unfold lsts; rw [List.getElem?_map, ha]; rfl)
        have KB : Hid ((lsts s)[k]? = some b.l) := hide (by unfold lsts; rw [List.getElem?_map, hb]; rfl)
        have hlt' : (k : Int) < n := by omega
        have hk0 : (0 : Int) ≤ (k : Int) := by omega
        clear i1 i2 ha hb hc1 hc2 hkr hks l1 l2
        by_cases hab : a.l = b.l
        · rw [decide_eq_true hab] at SB
          have HT2 : Hid ((lsts r).take (k + 1) = (lsts s).take (k + 1)) := hide (by
            obtain ⟨h1, h2⟩ := List.getElem?_eq_some_iff.1 KA.out
            obtain ⟨h3, h4⟩ := List.getElem?_eq_some_iff.1 KB.out
            rw [List.take_succ_eq_append_getElem h1, List.take_succ_eq_append_getElem h3, HT.out, h2, h4, hab])
          clear hab KA KB HT
          go_wp2_with fail
          go_region_with (go_at_call 12; refine SB.out.mono ?_; rintro E w1 ⟨rfl, q, hq⟩)
          all_goals
            have HW2 : Hid (∃ m, wr.drewN (1 + q) = w.drewN m) := hide (by
              obtain ⟨m, hm⟩ := HW.out
              exact ⟨m + (1 + q), by rw [hm, World.drewN_drewN]⟩)
            clear SB HW
            go_wp2
            go_roundw
            case rel => exact ⟨k + 1, by omega, by go_num, HT2, HW2⟩
            case measure => simp [intOf]; omega
        · rw [decide_eq_false hab] at SB
          have NE : Hid (decide (lsts r = lsts s) = false) := hide (decide_eq_false fun e => hab (by
            have h1 := KA.out
            rw [e, KB.out] at h1
            exact (Option.some.inj h1).symm))
          clear hab KA KB HT
          go_wp2_with fail
          go_region_with (go_at_call 12; refine SB.out.mono ?_; rintro E w1 ⟨rfl, q, hq⟩)
          all_goals
            have HW2 : Hid (∃ m, wr.drewN (1 + q) = w.drewN m) := hide (by
              obtain ⟨m, hm⟩ := HW.out
              exact ⟨m + (1 + q), by rw [hm, World.drewN_drewN]⟩)
            clear SB HW
            go_wp2
            go_ret
            exact ⟨by rw [NE.out]; rfl, HW2.out⟩
      · obtain rfl : k = n := by omega
        have hlt' : ¬ (k : Int) < k := by omega
        have YE : Hid (decide (lsts r = lsts s) = true) := hide (decide_eq_true (by
          have h1 := HT.out
          rwa [List.take_of_length_le (by rw [lsts_len, HRN.out]; omega), List.take_of_length_le (by rw [lsts_len, HSN.out]; omega)] at h1))
        clear HT
        go_wp2
        go_ret
        exact ⟨by rw [YE.out]; rfl, HW.out⟩
  · have hne : ¬ lsts r = lsts s := fun e => hlen (by have := congrArg List.length e; rwa [lsts_len, lsts_len] at this)
    have hq : ¬ (r.length : Int) = s.length := by omega
    rw [decide_eq_false hne]
    have hne2 : ((r.length : Int) != s.length) = true := by simp [hq]
    go_enter Try.func19, Try.ntmps19
    go_wp2
    go_ret
    exact ⟨rfl, 0, rfl⟩

end Go.Proofs.Ytlddfhfjemdgiaa
