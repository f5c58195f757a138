/- FrameBehind: the walk. -/
import Derived.Test.YtlddfhfjemdgiaaFg
namespace Go.Proofs.Ytlddfhfjemdgiaa
open Go.RowKit
set_option linter.unusedVariables false

/-- Behind the good length one more record is told. -/
theorem behind {bs rec : List Int} {l : List (List Int)} (h : Fm.Sc bs l) (hr : rec.length ≤ 131072) :
    apd (bs.take (Fm.cat l).length) rec = Fm.cat (l ++ [rec]) ∧ Fm.Sc (Fm.cat (l ++ [rec])) (l ++ [rec]) := by
  refine ⟨?_, Fm.sc_all fun r h1 => ?_⟩
  · unfold apd
    rw [if_pos hr, Fm.cat_app, Fm.cat_one]
    congr 1
    obtain ⟨t, ht⟩ := h.2.1
    rw [← ht]
    exact List.take_left
  · rcases List.mem_append.1 h1 with h1 | h1
    · exact h.1 r h1
    · simp at h1
      subst h1
      exact hr

theorem rd_none {bs r : List Int} {l : List (List Int)} {n : Nat} {e : Int} (h : Fm.Sc bs l) (hr : Fm.Rd (bs.drop (Fm.cat l).length) r n e) : e = 5 := by
  rcases hr with ⟨_, h1, _, h3⟩ | h
  · exact absurd h3 (h.2.2 r h1)
  · exact h.1

set_option maxRecDepth 100000 in
set_option maxHeartbeats 8000000 in
theorem frameBehind_walk (vb : Value) (bs : List Int) (vr : Value) (rec : List Int) (w : World) (hb : Is .u8 w vb bs) (hlb : bs.length * 1 ≤ 140737488351232) (hr : Is .u8 w vr rec) (hlr : rec.length * 1 ≤ 140737488351232) :
    Calls Try.prog 7 #[vb, vr] w fun E w' => E = .returned (.bool true) ∧ Below w.heap.size w w' := by
  rw [Nat.mul_one] at hlb hlr
  have HB := hide hb
  have HR := hide hr
  obtain ⟨bo, bc, hvb, _, _⟩ := hb.shape
  obtain ⟨ro, rc, hvr, _, _⟩ := hr.shape
  clear hb hr
  subst hvb hvr
  go_enter Try.func7, Try.ntmps7
  go_wp2_with fail
  refine (lives_any w).mono ?_
  rintro E w1 ⟨rfl, bel1⟩
  have B1 := hide bel1
  have S1 := bel1.size
  clear bel1
  by_cases h1 : bs.length ≤ 4000
  rotate_left
  · have h1' : (4000 : Int) < bs.length := by omega
    go_wp2
    go_ret
    exact ⟨rfl, B1.out⟩
  have h1' : ¬ (4000 : Int) < bs.length := by omega
  by_cases h2 : rec.length ≤ 400
  rotate_left
  · have h2' : (400 : Int) < rec.length := by omega
    go_wp2
    go_ret
    exact ⟨rfl, B1.out⟩
  have h2' : ¬ (400 : Int) < rec.length := by omega
  have C2 := hide (scan_any _ bs w1 (HB.out.below B1.out) (by omega))
  go_wp2_with fail
  refine C2.out.mono ?_
  rintro E w2 ⟨v2, r, rfl, ob2, bel2, SC⟩
  obtain ⟨g1, g2⟩ := sc_gle SC.out
  obtain ⟨hap, hsc⟩ := behind (rec := rec) SC.out (by omega)
  have RN : Hid (∀ (z : List Int) (n : Nat) (e : Int), Fm.Rd (bs.drop (Fm.cat (lsts r)).length) z n e → e = 5) := hide fun z n e h => rd_none SC.out h
  obtain ⟨g, hg⟩ : ∃ g, (Fm.cat (lsts r)).length = g := ⟨_, rfl⟩
  rw [hg] at hap g1 g2 RN ⊢
  have HAP := hide hap
  have HSC := hide hsc
  have OB := hide ob2
  have B2 := hide (B1.out.trans (bel2.mono S1))
  have S2 := bel2.size
  obtain ⟨vs1, hsl1, is1⟩ := (HB.out.below B2.out).slice_l Try.elemP Try.sizeP g (by omega)
  obtain ⟨vs2, hsl2, is2⟩ := (HB.out.below B2.out).slice_h Try.elemP Try.sizeP g (by omega)
  have C3 := hide (fread_any vs1 (bs.drop g) w2 is1 (by rw [List.length_drop]; omega))
  have IS2 := hide is2
  have hg0 : ¬ (g : Int) < 0 := by omega
  have hg1 : ¬ (bs.length : Int) < g := by omega
  obtain ⟨o2, c2, hv2, _, _⟩ := ob2.is.1.shape
  subst hv2
  clear C2 hap hsc ob2 bel2 is1 is2 B1 hg
  go_wp2_with fail
  refine C3.out.mono ?_
  rintro E w3 ⟨v3, z, n, e, rfl, own3, bel3, R⟩
  obtain rfl := RN.out z n e R.out
  have B3 := hide (B2.out.trans (bel3.mono (by omega)))
  have S3 := bel3.size
  replace OB := hide (OB.out.below bel3)
  have C4 := hide (fapp_any vs2 _ (bs.take g) rec w3 (IS2.out.below bel3) (HR.out.below B3.out) (by rw [List.length_take]; omega) hlr)
  rw [HAP.out, show ape rec = 0 from if_pos (by omega)] at C4
  clear C3 own3 bel3 R RN B2 IS2 hsl1
  go_wp2_with fail
  refine C4.out.mono ?_
  rintro E w4 ⟨v4, rfl, own4, bel4⟩
  have B4 := hide (B3.out.trans (bel4.mono (by omega)))
  have S4 := bel4.size
  replace OB := hide (OB.out.below bel4)
  have lc : (Fm.cat (lsts r ++ [rec])).length ≤ 5000 := by
    rw [← HAP.out]
    unfold apd
    rw [if_pos (by omega), List.length_append, Fm.frm_len, List.length_take]
    have := Fm.sz3 (n := rec.length) (by omega)
    omega
  have C5 := hide (scan_any v4 _ w4 own4.is (by omega))
  obtain ⟨o4, c4, hv4, _, _⟩ := own4.is.shape
  subst hv4
  clear C4 own4 bel4 B3 hsl2
  go_wp2_with fail
  refine C5.out.mono ?_
  rintro E w5 ⟨v5, s, rfl, ob5, bel5, SC5⟩
  have hs := Fm.sc_one SC5.out HSC.out
  have ls : s.length = r.length + 1 := by have := congrArg List.length hs; rw [lsts_len, List.length_append, lsts_len] at this; exact this
  rw [hs]
  have HS := hide hs
  have L1 := hide (sc_lens SC.out)
  have L2 := hide (sc_lens SC5.out)
  replace OB := hide (OB.out.below bel5)
  have B5 := hide (B4.out.trans (bel5.mono (by omega)))
  have S5 := bel5.size
  obtain ⟨vs3, hsl3, is3⟩ := ob5.is.slice_h r.length (by omega)
  have C6 := hide (records_any vs3 _ (s.take r.length) r w5 is3 OB.out.is (fun a ha => by have := L2.out a (List.mem_of_mem_take ha); omega) (fun a ha => by have := L1.out a ha; omega) (by rw [List.length_take]; omega) (by omega))
  rw [decide_eq_true (by rw [lsts_take, HS.out, ← lsts_len r]; exact List.take_left)] at C6
  have O5 := hide ob5
  obtain ⟨o5, c5, hv5, _, _⟩ := ob5.is.1.shape
  rw [ls] at hv5
  subst hv5
  generalize hm : (Fm.cat (lsts r ++ [rec])).length = m at *
  have e7 : (((r.length + 1 : Nat)) : Int) = (r.length : Int) + 1 := by omega
  have e8 : IntKind.i64.wrap ((r.length : Int) + 1) = (r.length : Int) + 1 := wrap_i64_small _ (by omega) (by omega)
  clear C5 hs ob5 bel5 SC5 SC B4 hm is3
  go_wp2_with fail
  refine C6.out.mono ?_
  rintro E w6 ⟨rfl, q, hw6⟩
  have bel6 : Below w5.heap.size w5 w6 := by rw [hw6]; exact below_drewN (Below.refl _ _) q
  have B6 := hide (B5.out.trans (bel6.mono (by omega)))
  have S6 := bel6.size
  replace O5 := hide (O5.out.below bel6)
  obtain ⟨b5, f5, c6, hv6, _, _, _, hcell⟩ := O5.out.is.full (by omega)
  rw [ls] at hv6
  simp only [Value.slice.injEq, true_and] at hv6
  obtain ⟨rfl, rfl⟩ := hv6
  obtain ⟨a, ha⟩ : ∃ a, s[r.length]? = some a := ⟨s[r.length], by rw [List.getElem?_eq_getElem]⟩
  have k1 := hcell r.length a ha
  have hal : a.l = rec := by
    have h1 : (lsts s)[r.length]? = some a.l := by unfold lsts; rw [List.getElem?_map, ha]; rfl
    rw [HS.out, ← lsts_len r, List.getElem?_append_right (Nat.le_refl _)] at h1
    simp at h1
    exact h1.symm
  have isa := O5.out.is.2 a (List.mem_of_getElem? ha)
  rw [hal] at isa
  have C7 := hide (same_yes a.v _ rec rec w6 isa (HR.out.below B6.out) (by omega) rfl)
  have hri : (0 : Int) ≤ (r.length : Int) := by omega
  have hri2 : (r.length : Int) < (r.length : Int) + 1 := by omega
  clear C6 hw6 bel6 B5 hcell ha hal isa hsl3 OB L1 L2 HS
  go_wp2_with fail
  refine C7.out.mono ?_
  rintro E w7 ⟨rfl, bel7⟩
  clear C7
  go_wp2
  go_ret
  exact ⟨rfl, B6.out.trans (bel7.mono (by omega))⟩

end Go.Proofs.Ytlddfhfjemdgiaa
