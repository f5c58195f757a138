/- FrameTorn: the walk. -/
import Derived.Test.YtlddfhfjemdgiaaFh
namespace Go.Proofs.Ytlddfhfjemdgiaa
open Go.RowKit
set_option linter.unusedVariables false

set_option maxRecDepth 100000 in
set_option maxHeartbeats 8000000 in
theorem frameTorn_walk (v : Value) (r : List Bw) (cut : Int) (w : World) (h : IsBB w v r) (hf : ∀ a ∈ r, a.l.length ≤ 140737488351232) (hl : r.length * 24 ≤ 140737488351232) (hcut : (Lit.int .i64 cut).wf = true) :
    Calls Try.prog 6 #[v, .int .i64 cut] w fun E w' => E = .returned (.bool true) ∧ Below w.heap.size w w' := by
  have hc : -9223372036854775808 ≤ cut ∧ cut < 9223372036854775808 := by
    have := range_i64 (zs := [cut]) (by simpa using hcut) 0
    simp at this
    omega
  have HV := hide h
  have HF := hide hf
  obtain ⟨vo, vc, hv, hvc, hvm⟩ := h.1.shape
  clear h hf hcut
  subst hv
  go_enter Try.func6, Try.ntmps6
  go_wp2_with fail
  refine (lives_any w).mono ?_
  rintro E w1 ⟨rfl, bel1⟩
  have B1 := hide bel1
  have S1 := bel1.size
  clear bel1
  by_cases h1 : r.length ≤ 60
  rotate_left
  · have h1' : (60 : Int) < r.length := by omega
    go_wp2
    go_ret
    exact ⟨rfl, B1.out⟩
  have h1' : ¬ (60 : Int) < r.length := by omega
  go_wp2
  go_loopw [5, 6, 7] (fun bv ev iv wr => ∃ k : Nat, k ≤ r.length ∧ iv = .int .i64 k ∧ Hid (Own .u8 5 w1.heap.size wr bv (Fm.cat ((lsts r).take k))) ∧ Hid (Own .i64 3 w1.heap.size wr ev (ens (lsts r) k)) ∧ Hid (Below w1.heap.size w1 wr) ∧ Hid (∀ z ∈ (lsts r).take k, z.length ≤ 400)) (fun _ _ iv _ => r.length - (intOf iv).toNat)
  case atStart => exact ⟨0, by omega, rfl, hide (Own.nil _ _ _ _), hide (Own.nil _ _ _ _), hide (Below.refl _ _), hide (by simp)⟩
  case round =>
    obtain ⟨k, hk, rfl, OB, OE, BL, SM⟩ := hrel
    have szr := BL.out.size
    have b0r : Hid (Below w.heap.size w wr) := hide (B1.out.trans (BL.out.mono S1))
    by_cases hlt : k < r.length
    · obtain ⟨b, off, cq, hvx, _, _, hB, hcell⟩ := (HV.out.below b0r.out).full (by omega)
      simp only [Value.slice.injEq, true_and] at hvx
      obtain ⟨rfl, rfl⟩ := hvx
      obtain ⟨a, ha⟩ : ∃ a, r[k]? = some a := ⟨r[k], by rw [List.getElem?_eq_getElem]⟩
      have e4 := hcell k a ha
      have isa := (HV.out.below b0r.out).2 a (List.mem_of_getElem? ha)
      obtain ⟨av, ac, hav, _, _⟩ := isa.shape
      have hfa := HF.out a (List.mem_of_getElem? ha)
      have KA : Hid ((lsts r)[k]? = some a.l) := hide (by unfold lsts; rw [List.getElem?_map, ha]; rfl)
      have hlt' : (k : Int) < r.length := by omega
      have hk0 : (0 : Int) ≤ (k : Int) := by omega
      rw [hav] at e4 isa
      have ISA := hide isa
      clear hcell ha hav isa
      by_cases hbig : a.l.length ≤ 400
      rotate_left
      · have hb' : (400 : Int) < a.l.length := by omega
        go_wp2
        go_ret
        exact ⟨rfl, b0r.out⟩
      have hb' : ¬ (400 : Int) < a.l.length := by omega
      have tk : ((lsts r).take k).length = k := by rw [List.length_take, lsts_len]; omega
      have cs := cat_small _ SM.out
      rw [tk] at cs
      have C2 := hide (fapp_any u5 _ _ a.l wr OB.out.is ISA.out (by omega) hfa)
      rw [cat_next KA.out (by omega), show ape a.l = 0 from if_pos (by omega)] at C2
      have SM2 : Hid (∀ z ∈ (lsts r).take (k + 1), z.length ≤ 400) := hide (by
        obtain ⟨q1, q2⟩ := List.getElem?_eq_some_iff.1 KA.out
        rw [List.take_succ_eq_append_getElem q1, q2]
        intro z hz
        rcases List.mem_append.1 hz with hz | hz
        · exact SM.out z hz
        · simp at hz; subst hz; exact hbig)
      have tk2 : ((lsts r).take (k + 1)).length = k + 1 := by rw [List.length_take, lsts_len]; omega
      have cs2 := cat_small _ SM2.out
      rw [tk2] at cs2
      clear SM KA cs tk tk2
      go_wp2_with fail
      refine C2.out.mono ?_
      rintro E w2 ⟨v2, rfl, own2, bel2⟩
      have s2 := bel2.size
      have EN := hide (ens_next (lsts r) k)
      generalize hcl : (Fm.cat ((lsts r).take (k + 1))).length = cl at *
      obtain ⟨o2, c2, hv2, _, _⟩ := own2.is.shape
      rw [hcl] at hv2
      have W := wf_i64 (z := (cl : Int)) (by omega) (by omega)
      obtain ⟨w3, hw3, sz3, bel3, own3⟩ := own_step .i64 3 w2 #[.int .i64 cl] 1 [(cl : Int)] rfl rfl (by simp [maxLen]) (by simpa using W)
      have OE3 := (OE.out.below bel2).below bel3
      have OB3 := hide ((own2.below bel3).rebase szr)
      have BL3 := (BL.out.trans (bel2.mono szr)).trans (bel3.mono (by omega))
      have le : (ens (lsts r) k).length = k := ens_len _ _
      have OE3' := hide OE3
      have BL3' := hide BL3
      subst hv2
      clear C2 OB own2 bel2 bel3 OE3 BL3 OE BL hcl
      generalize hen : ens (lsts r) k = en at *
      have HEN := hide hen
      clear hen
      have OW3 := own3.is
      clear own3
      have OEo := OE3'.out
      go_wp2_with (at_builtin; refine wpList_append_is rfl (.tmp 46) (.tmp 49) 36 rfl .i64 3 w1.heap.size 8 Try.underlying36 Try.info3 (by decide) _ en rfl OEo _ [(cl : Int)] rfl OW3 (by simp; omega) (by omega) ?_)
      intro v4 w4 own4 bel4 gr4
      rw [← EN.out] at own4
      have OB4 := hide (OB3.out.kept gr4 (own_unlike OB3.out OE3'.out (by decide)))
      have BL4 := hide (BL3'.out.trans bel4)
      have OE4 := hide own4
      clear own4 bel4 gr4 OB3 BL3' OE3' OEo OW3
      go_wp2
      go_roundw
      case rel => exact ⟨k + 1, by omega, by go_num, OB4, OE4, BL4, SM2⟩
      case measure => simp [intOf]; omega
    · obtain rfl : k = r.length := by omega
      have hlt' : ¬ (r.length : Int) < r.length := by omega
      have tkall : (lsts r).take r.length = lsts r := List.take_of_length_le (by rw [lsts_len]; omega)
      rw [tkall] at OB SM
      have cs := cat_small _ SM.out
      rw [lsts_len] at cs
      have HSM := hide (show ∀ z ∈ lsts r, z.length ≤ 131072 from fun z hz => by have := SM.out z hz; omega)
      obtain ⟨o5, c5, hv5, _, _⟩ := OB.out.is.shape
      generalize hcl : (Fm.cat (lsts r)).length = cl at *
      have HCL := hide hcl
      have e5 : IntKind.i64.wrap ((cl : Int) + 1) = (cl : Int) + 1 := wrap_i64_small _ (by omega) (by omega)
      have C3 := hide (pick_any cut ((cl : Int) + 1) wr (by omega) (by omega) hc.1 hc.2)
      subst hv5
      clear SM tkall hcl
      go_wp2_with fail
      refine C3.out.mono ?_
      rintro E w3 ⟨⟨p, hp, rfl⟩, rfl⟩
      clear C3
      go_wp2
      go_loopw [11, 12] (fun nv gv wx => ∃ n : Nat, n ≤ r.length ∧ nv = .int .i64 n ∧ gv = .int .i64 ((Fm.cat ((lsts r).take n)).length : Nat) ∧ Hid ((Fm.cat ((lsts r).take n)).length ≤ p) ∧ wr = wx) (fun nv _ _ => r.length - (intOf nv).toNat)
      case atStart => exact ⟨0, by omega, rfl, rfl, hide (Nat.zero_le _), rfl⟩
      case round =>
        obtain ⟨n, hn, rfl, rfl, HP, rfl⟩ := hrel
        by_cases hnl : n < r.length
        · have hnl' : (n : Int) < r.length := by omega
          have le := ens_len (lsts r) r.length
          obtain ⟨be, oe, ce, hve, _, _, _, hce⟩ := OE.out.is.full (by rw [le]; omega)
          rw [le] at hve
          have e6 := hce n (by rw [le]; exact hnl)
          rw [ens_at _ _ _ hnl] at e6
          have hn0 : (0 : Int) ≤ (n : Int) := by omega
          generalize hcn : (Fm.cat ((lsts r).take (n + 1))).length = cn at *
          have HCN := hide hcn
          subst hve
          clear hce le hcn
          by_cases hle : cn ≤ p
          · have hle' : (cn : Int) ≤ p := by omega
            go_wp2
            go_roundw
            case rel => exact ⟨n + 1, by omega, by go_num, by rw [HCN.out], hide (by rw [HCN.out]; exact hle), trivial⟩
            case measure => simp [intOf]; omega
          · have hle' : ¬ (cn : Int) ≤ p := by omega
            have HK : Hid (n < r.length → p < (Fm.cat ((lsts r).take (n + 1))).length) := hide fun _ => by rw [HCN.out]; omega
            have lcat := HCL.out
            obtain ⟨vs, hsl, isl⟩ := OB.out.is.slice_h Try.elemP Try.sizeP p (by omega)
            have SCn := hide (Fm.sc_cut (l := lsts r) (k := p) (n := n) HSM.out (by rw [lsts_len]; omega) HP.out (by rw [lsts_len]; exact HK.out) (by omega))
            have C4 := hide (scan_any vs _ wr isl (by rw [List.length_take]; omega))
            clear isl lcat
            go_wp2_with fail
            refine C4.out.mono ?_
            rintro E w4 ⟨v4, r4, rfl, ob4, bel4, S4⟩
            have h4 := Fm.sc_one S4.out SCn.out
            rw [h4]
            have H4 := hide h4
            have L4 := hide (sc_lens S4.out)
            have O4 := hide ob4
            have s4 := bel4.size
            have b04 : Hid (Below w.heap.size w w4) := hide (b0r.out.trans (bel4.mono (by omega)))
            have C5 := hide (scan_any _ _ w4 (OB.out.below bel4).is (by rw [HCL.out]; omega))
            clear C4 hsl SCn h4 S4 ob4 bel4
            go_wp2_with fail
            refine C5.out.mono ?_
            rintro E w5 ⟨v5, r5, rfl, ob5, bel5, S5⟩
            have h5 := Fm.sc_one S5.out (Fm.sc_all HSM.out)
            rw [h5, HCL.out]
            have H5 := hide h5
            have L5 := hide (sc_lens S5.out)
            have O5 := hide ob5
            have s5 := bel5.size
            replace O4 := hide (O4.out.below bel5)
            have b05 : Hid (Below w.heap.size w w5) := hide (b04.out.trans (bel5.mono (by omega)))
            obtain ⟨vs6, hsl6, is6⟩ := (HV.out.below b05.out).slice_h n hn
            have n4 : r4.length = n := by have := congrArg List.length H4.out; rw [lsts_len, List.length_take, lsts_len] at this; omega
            have n5 : r5.length = r.length := by have := congrArg List.length H5.out; rwa [lsts_len, lsts_len] at this
            have C6 := hide (records_any v4 vs6 r4 (r.take n) w5 O4.out.is is6 (fun a ha => by have := L4.out a ha; omega) (fun a ha => HF.out a (List.mem_of_mem_take ha)) (by omega) (by rw [List.length_take]; omega))
            rw [decide_eq_true (by rw [lsts_take, H4.out])] at C6
            clear C5 h5 S5 ob5 bel5 is6 n4
            go_wp2_with fail
            refine C6.out.mono ?_
            rintro E w6 ⟨rfl, q, hw6⟩
            have bel6 : Below w5.heap.size w5 w6 := by rw [hw6]; exact below_drewN (Below.refl _ _) q
            have s6 := bel6.size
            have b06 : Hid (Below w.heap.size w w6) := hide (b05.out.trans (bel6.mono (by omega)))
            have C7 := hide (records_any v5 _ r5 r w6 (O5.out.below bel6).is (HV.out.below b06.out) (fun a ha => by have := L5.out a ha; omega) HF.out (by omega) (by omega))
            rw [decide_eq_true H5.out] at C7
            clear C6 hw6 bel6 hsl6 n5
            go_wp2_with fail
            refine C7.out.mono ?_
            rintro E w7 ⟨rfl, q7, hw7⟩
            have bel7 : Below w6.heap.size w6 w7 := by rw [hw7]; exact below_drewN (Below.refl _ _) q7
            clear C7 hw7
            go_wp2
            go_ret
            exact ⟨rfl, b06.out.trans (bel7.mono (by omega))⟩
        · have hnl' : ¬ (n : Int) < r.length := by omega
          have HK : Hid (n < r.length → p < (Fm.cat ((lsts r).take (n + 1))).length) := hide fun h => absurd h hnl
          have lcat := HCL.out
          obtain ⟨vs, hsl, isl⟩ := OB.out.is.slice_h Try.elemP Try.sizeP p (by omega)
          have SCn := hide (Fm.sc_cut (l := lsts r) (k := p) (n := n) HSM.out (by rw [lsts_len]; omega) HP.out (by rw [lsts_len]; exact HK.out) (by omega))
          have C4 := hide (scan_any vs _ wr isl (by rw [List.length_take]; omega))
          clear isl lcat
          go_wp2_with fail
          refine C4.out.mono ?_
          rintro E w4 ⟨v4, r4, rfl, ob4, bel4, S4⟩
          have h4 := Fm.sc_one S4.out SCn.out
          rw [h4]
          have H4 := hide h4
          have L4 := hide (sc_lens S4.out)
          have O4 := hide ob4
          have s4 := bel4.size
          have b04 : Hid (Below w.heap.size w w4) := hide (b0r.out.trans (bel4.mono (by omega)))
          have C5 := hide (scan_any _ _ w4 (OB.out.below bel4).is (by rw [HCL.out]; omega))
          clear C4 hsl SCn h4 S4 ob4 bel4
          go_wp2_with fail
          refine C5.out.mono ?_
          rintro E w5 ⟨v5, r5, rfl, ob5, bel5, S5⟩
          have h5 := Fm.sc_one S5.out (Fm.sc_all HSM.out)
          rw [h5, HCL.out]
          have H5 := hide h5
          have L5 := hide (sc_lens S5.out)
          have O5 := hide ob5
          have s5 := bel5.size
          replace O4 := hide (O4.out.below bel5)
          have b05 : Hid (Below w.heap.size w w5) := hide (b04.out.trans (bel5.mono (by omega)))
          obtain ⟨vs6, hsl6, is6⟩ := (HV.out.below b05.out).slice_h n hn
          have n4 : r4.length = n := by have := congrArg List.length H4.out; rw [lsts_len, List.length_take, lsts_len] at this; omega
          have n5 : r5.length = r.length := by have := congrArg List.length H5.out; rwa [lsts_len, lsts_len] at this
          have C6 := hide (records_any v4 vs6 r4 (r.take n) w5 O4.out.is is6 (fun a ha => by have := L4.out a ha; omega) (fun a ha => HF.out a (List.mem_of_mem_take ha)) (by omega) (by rw [List.length_take]; omega))
          rw [decide_eq_true (by rw [lsts_take, H4.out])] at C6
          clear C5 h5 S5 ob5 bel5 is6 n4
          go_wp2_with fail
          refine C6.out.mono ?_
          rintro E w6 ⟨rfl, q, hw6⟩
          have bel6 : Below w5.heap.size w5 w6 := by rw [hw6]; exact below_drewN (Below.refl _ _) q
          have s6 := bel6.size
          have b06 : Hid (Below w.heap.size w w6) := hide (b05.out.trans (bel6.mono (by omega)))
          have C7 := hide (records_any v5 _ r5 r w6 (O5.out.below bel6).is (HV.out.below b06.out) (fun a ha => by have := L5.out a ha; omega) HF.out (by omega) (by omega))
          rw [decide_eq_true H5.out] at C7
          clear C6 hw6 bel6 hsl6 n5
          go_wp2_with fail
          refine C7.out.mono ?_
          rintro E w7 ⟨rfl, q7, hw7⟩
          have bel7 : Below w6.heap.size w6 w7 := by rw [hw7]; exact below_drewN (Below.refl _ _) q7
          clear C7 hw7
          go_wp2
          go_ret
          exact ⟨rfl, b06.out.trans (bel7.mono (by omega))⟩

end Go.Proofs.Ytlddfhfjemdgiaa
