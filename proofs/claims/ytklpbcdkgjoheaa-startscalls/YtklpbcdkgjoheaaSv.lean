/- The contract of the document's Fork of starts. -/
import Derived.Test.YtklpbcdkgjoheaaSd
namespace Go.Proofs.Ytklpbcdkgjoheaa
open Go.RowKit
set_option linter.unusedVariables false

theorem Try.info3 : (Try.prog.info? 3).map (fun i => (i.zero, i.size, i.bytes)) = some (some (.int .i64 0), 1, 8) := by kernel_rfl

theorem cand_len (l : List Sm.S) : (Sm.cand l).length = l.length := by unfold Sm.cand; rw [List.length_map]

theorem cand_next {l : List Sm.S} {k : Nat} {s : Sm.S} (h : l[k]? = some s) : (Sm.cand l).take k ++ [s.2 - 1] = (Sm.cand l).take (k + 1) := by
  unfold Sm.cand
  rw [List.take_add_one, List.getElem?_map, h]
  rfl

set_option maxRecDepth 100000 in
set_option maxHeartbeats 4000000 in
theorem sforkR_any (va vb : Value) (a b : List Sm.S) (ae be : Int) (w : World) (ha : RowS w va a) (hb : RowS w vb b) (hla : a.length ≤ 100000) (hlb : b.length ≤ 100000) :
    Calls Try.prog 17 #[va, .int .i64 ae, vb, .int .i64 be] w fun E w' => ∃ n, E = .returned (.tuple #[.int .i64 n, .int .i64 (frE a ae b be)]) ∧ Fr a ae b be n ∧ Below w.heap.size w w' := by
  have X := hide (scheckR_any va a ae w ha (by omega))
  have Y : Hid (∀ m, _) := hide fun m => scheckR_any vb b be (w.drewN m) (rowS_drewN hb m) (by omega)
  obtain ⟨aa, ca, hva, _, _⟩ := ha.shape
  obtain ⟨ab, cb, hvb, _, _⟩ := hb.shape
  have HA := hide ha
  have HB := hide hb
  subst hva hvb
  clear ha hb
  by_cases h0 : Sm.chk a ae = 0
  · rw [h0] at X
    by_cases h1 : Sm.chk b be = 0
    · have hE : frE a ae b be = 0 := by unfold frE; rw [if_pos h0, h1]
      have oa := Sm.chk_zero.1 h0
      have ob := Sm.chk_zero.1 h1
      rw [hE]
      simp only [h1] at Y
      have BF : Hid (∀ n, Sm.Best a ae b be ([ae, be] ++ Sm.cand a ++ Sm.cand b) n → Fr a ae b be n) := hide fun n hn => .inl ⟨hE, Sm.best_fk oa ob hn⟩
      have a0 := oa.1
      have a1 := oa.2.1
      have b0 := ob.1
      have b1 := ob.2.1
      have UA := hide (Sm.up_at a ae 0 0 oa.2.2.2.1)
      have UB := hide (Sm.up_at b be 0 0 ob.2.2.2.1)
      have CA : Hid (0 < a.length → ∃ b1 o1 cp, Value.slice aa a.length ca = .slice (some ⟨b1, o1, none⟩) a.length cp ∧ b1 < w.heap.size ∧ ∀ (i : Nat) (s : Sm.S), a[i]? = some s → w.cell? ⟨b1, o1 + i * 2 + 1, none⟩ = some (.int .i64 s.2)) := hide fun hne => by
        obtain ⟨b1, o1, cp, h1, _, _, h4, h5⟩ := rowS_full HA.out hne
        exact ⟨b1, o1, cp, h1, h4, fun i s hs => (h5 i s hs).2⟩
      have CB : Hid (0 < b.length → ∃ b1 o1 cp, Value.slice ab b.length cb = .slice (some ⟨b1, o1, none⟩) b.length cp ∧ b1 < w.heap.size ∧ ∀ (i : Nat) (s : Sm.S), b[i]? = some s → w.cell? ⟨b1, o1 + i * 2 + 1, none⟩ = some (.int .i64 s.2)) := hide fun hne => by
        obtain ⟨b1, o1, cp, h1, _, _, h4, h5⟩ := rowS_full HB.out hne
        exact ⟨b1, o1, cp, h1, h4, fun i s hs => (h5 i s hs).2⟩
      have EPA : Hid (∀ (wx : World) (n : Int), Below w.heap.size w wx → _) := hide fun wx n hx => epoR_any _ a n wx (HA.out.below hx) (by omega)
      have EPB : Hid (∀ (wx : World) (n : Int), Below w.heap.size w wx → _) := hide fun wx n hx => epoR_any _ b n wx (HB.out.below hx) (by omega)
      have LCA := hide (cand_len a)
      have LCB := hide (cand_len b)
      generalize hna : a.length = na at *
      generalize hnb : b.length = nb at *
      have HNA := hide hna
      have HNB := hide hnb
      clear hE oa ob h0 h1 HA HB hna hnb
      go_enter Try.func17, Try.ntmps17
      go_wp2_with fail
      refine X.out.mono ?_
      rintro E w1 ⟨rfl, m1, rfl⟩
      go_wp2_with fail
      refine (Y.out m1).mono ?_
      rintro E w2' ⟨rfl, m2, hw2⟩
      obtain ⟨w2, h2⟩ : ∃ x, x = w2' := ⟨_, rfl⟩
      have bel2 : Below w.heap.size w w2 := by rw [h2, hw2]; exact below_drewN (below_drewN (Below.refl _ _) m1) m2
      have s2 : w2.heap.size = w.heap.size := by rw [h2, hw2]; rfl
      rw [← h2]
      clear h2 hw2 X Y
      obtain ⟨w3, hw3, sz3, bel3, own3⟩ := own_step .i64 3 w2 #[.int .i64 ae, .int .i64 be] 2 [ae, be] rfl rfl (by simp [maxLen]) (by
        intro z hz
        simp at hz
        rcases hz with rfl | rfl
        · exact wf_i64 (by omega) (by omega)
        · exact wf_i64 (by omega) (by omega))
      have own30 : Own .i64 3 w.heap.size w3 (.slice (some ⟨w2.heap.size, 0, none⟩) 2 2) ([ae, be] ++ (Sm.cand a).take 0) := by
        have := own3.rebase (base' := w.heap.size) (by omega)
        simpa using this
      rw [s2] at own30
      have bel03 := bel2.trans (bel3.mono (by omega))
      clear own3 bel3 bel2
      go_wp2
      go_loopw [11, 12] (fun ov iv wr => ∃ k : Nat, k ≤ na ∧ iv = .int .i64 k ∧ Own .i64 3 w.heap.size wr ov ([ae, be] ++ (Sm.cand a).take k) ∧ Below w.heap.size w wr) (fun _ iv _ => na - (intOf iv).toNat)
      case atStart => exact ⟨0, by omega, rfl, own30, bel03⟩
      case round =>
        obtain ⟨k, hk, rfl, own, bel⟩ := hrel
        have sz := bel.size
        by_cases hlt : k < na
        · obtain ⟨b2, o2, cp, hv, hB, hcell⟩ := CA.out (by omega)
          have har : aa = some ⟨b2, o2, none⟩ := by simp at hv; exact hv.1
          subst har
          obtain ⟨s, hs⟩ := at_of (l := a) (k := k) (by have := HNA.out; omega)
          have d1 := (bel.cell (p := ⟨b2, o2 + k * 2 + 1, none⟩) hB).trans (hcell k s hs)
          obtain ⟨_, _, u1, u2⟩ := UA.out k s hs
          have hlt' : (k : Int) < na := by omega
          have HT : Hid (([ae, be] ++ (Sm.cand a).take k) ++ [s.2 - 1] = [ae, be] ++ (Sm.cand a).take (k + 1)) := hide (by rw [List.append_assoc, cand_next hs])
          have hwr : IntKind.i64.wrap (s.2 - 1) = s.2 - 1 := wrap_i64_small _ (by omega) (by omega)
          obtain ⟨w4, hw4, sz4, bel4, own4⟩ := own_step .i64 3 wr #[.int .i64 (s.2 - 1)] 1 [s.2 - 1] rfl rfl (by simp [maxLen]) (by
            intro z hz
            rw [List.mem_singleton.1 hz]
            exact wf_i64 (by omega) (by omega))
          have HLL : Hid ((([ae, be] ++ (Sm.cand a).take k).length + [s.2 - 1].length) * 8 ≤ 140737488355328) := hide (by
            rw [List.length_append, List.length_take, LCA.out, List.length_singleton]
            simp
            omega)
          have own' := own.below bel4
          have bel5 := bel.trans (bel4.mono sz)
          generalize hu : [ae, be] ++ (Sm.cand a).take k = u at *
          clear own bel bel4 hs hv hcell hu
          go_wp2_with (at_builtin; refine wpList_append_is rfl (.tmp 37) (.tmp 44) 56 rfl .i64 3 w.heap.size 8 Try.underlying56 Try.info3 (by decide) _ _ rfl own' _ [s.2 - 1] rfl own4.is HLL.out (by omega) ?_)
          intro v6 w6 own6 bel6 _
          rw [HT.out] at own6
          have bel7 := bel5.trans bel6
          clear own' own4 bel5 bel6 HT HLL d1
          go_wp2
          go_roundw
          case rel => exact ⟨k + 1, by omega, by go_num, own6, bel7⟩
          case measure => simp [intOf]; omega
        · have hlt' : ¬ (k : Int) < na := by omega
          rw [List.take_of_length_le (by rw [LCA.out]; omega)] at own
          have ownB := own
          rw [show [ae, be] ++ Sm.cand a = ([ae, be] ++ Sm.cand a) ++ (Sm.cand b).take 0 by simp] at ownB
          obtain ⟨we, hwe⟩ : ∃ x, x = wr := ⟨_, rfl⟩
          rw [← hwe] at ownB bel ⊢
          clear own hwe
          go_wp2
          clear hlt hlt' hk
          go_loopw [11, 13] (fun ov iv wr => ∃ j : Nat, j ≤ nb ∧ iv = .int .i64 j ∧ Own .i64 3 w.heap.size wr ov (([ae, be] ++ Sm.cand a) ++ (Sm.cand b).take j) ∧ Below w.heap.size w wr) (fun _ iv _ => nb - (intOf iv).toNat)
          case atStart => exact ⟨0, by omega, rfl, ownB, bel⟩
          case round =>
            clear ownB bel
            obtain ⟨j, hj, rfl, own, bel⟩ := hrel
            have sz := bel.size
            by_cases hlt : j < nb
            · obtain ⟨b2, o2, cp, hv, hB, hcell⟩ := CB.out (by omega)
              have har : ab = some ⟨b2, o2, none⟩ := by simp at hv; exact hv.1
              subst har
              obtain ⟨s, hs⟩ := at_of (l := b) (k := j) (by have := HNB.out; omega)
              have d1 := (bel.cell (p := ⟨b2, o2 + j * 2 + 1, none⟩) hB).trans (hcell j s hs)
              obtain ⟨_, _, u1, u2⟩ := UB.out j s hs
              have hlt' : (j : Int) < nb := by omega
              have HT : Hid ((([ae, be] ++ Sm.cand a) ++ (Sm.cand b).take j) ++ [s.2 - 1] = ([ae, be] ++ Sm.cand a) ++ (Sm.cand b).take (j + 1)) := hide (by rw [List.append_assoc, cand_next hs])
              have hwr : IntKind.i64.wrap (s.2 - 1) = s.2 - 1 := wrap_i64_small _ (by omega) (by omega)
              obtain ⟨w4, hw4, sz4, bel4, own4⟩ := own_step .i64 3 wr #[.int .i64 (s.2 - 1)] 1 [s.2 - 1] rfl rfl (by simp [maxLen]) (by
                intro z hz
                rw [List.mem_singleton.1 hz]
                exact wf_i64 (by omega) (by omega))
              have HLL : Hid (((([ae, be] ++ Sm.cand a) ++ (Sm.cand b).take j).length + [s.2 - 1].length) * 8 ≤ 140737488355328) := hide (by
                rw [List.length_append, List.length_append, List.length_take, LCA.out, LCB.out, List.length_singleton]
                simp
                omega)
              have own' := own.below bel4
              have bel5 := bel.trans (bel4.mono sz)
              generalize hu : ([ae, be] ++ Sm.cand a) ++ (Sm.cand b).take j = u at *
              clear own bel bel4 hs hv hcell hu
              go_wp2_with (at_builtin; refine wpList_append_is rfl (.tmp 52) (.tmp 59) 56 rfl .i64 3 w.heap.size 8 Try.underlying56 Try.info3 (by decide) _ _ rfl own' _ [s.2 - 1] rfl own4.is HLL.out (by omega) ?_)
              intro v6 w6 own6 bel6 _
              rw [HT.out] at own6
              have bel7 := bel5.trans bel6
              clear own' own4 bel5 bel6 HT HLL d1
              go_wp2
              go_roundw
              case rel => exact ⟨j + 1, by omega, by go_num, own6, bel7⟩
              case measure => simp [intOf]; omega
            · have hlt' : ¬ (j : Int) < nb := by omega
              rw [List.take_of_length_le (by rw [LCB.out]; omega)] at own
              obtain ⟨L, hL⟩ : ∃ x, ([ae, be] ++ Sm.cand a) ++ Sm.cand b = x := ⟨_, rfl⟩
              have hLn : L.length ≤ 300000 ∧ 0 < L.length := by
                rw [← hL, List.length_append, List.length_append, LCA.out, LCB.out]
                simp
                omega
              rw [hL] at own BF
              obtain ⟨g3, o3, c3, hv3, _, _, hB3, hcell3⟩ := own.is.full hLn.2
              subst hv3
              have HC3 := hide hcell3
              obtain ⟨wf, hwf⟩ : ∃ x, x = wr := ⟨_, rfl⟩
              rw [← hwf] at bel HC3 ⊢
              generalize hnl : L.length = nl at *
              have HNL := hide hnl
              have BS := hide (Sm.best_start a b ae be)
              clear own hwf hL hcell3 hnl hB3
              go_wp2
              clear hlt hlt' hj
              go_loopw [14, 15] (fun nv iv wr => ∃ (k : Nat) (n0 : Int) (mq : Nat), k ≤ nl ∧ iv = .int .i64 k ∧ nv = .int .i64 n0 ∧ Hid (Sm.Best a ae b be (L.take k) n0) ∧ wr = wf.drewN mq) (fun _ iv _ => nl - (intOf iv).toNat)
              case atStart => exact ⟨0, 0, 0, by omega, rfl, rfl, BS, rfl⟩
              case round =>
                obtain ⟨k, n0, mq, hk, rfl, rfl, HT, rfl⟩ := hrel
                by_cases hlt : k < nl
                · obtain ⟨z, hz⟩ := at_of (l := L) (k := k) (by have := HNL.out; omega)
                  have d0 := HC3.out k hlt
                  rw [show L.getD k 0 = z by rw [List.getD_eq_getElem?_getD, hz]; rfl] at d0
                  have hlt' : (k : Int) < nl := by omega
                  have HN : Hid (¬ (n0 < z ∧ z ≤ ae ∧ z ≤ be ∧ Sm.epo z 0 a = Sm.epo z 0 b) → Sm.Best a ae b be (L.take (k + 1)) n0) := hide fun h => by
                    rw [List.take_add_one, hz]
                    exact Sm.best_no HT.out h
                  have HY : Hid (n0 < z → z ≤ ae → z ≤ be → Sm.epo z 0 a = Sm.epo z 0 b → Sm.Best a ae b be (L.take (k + 1)) z) := hide fun h1 h2 h3 h4 => by
                    rw [List.take_add_one, hz]
                    exact Sm.best_yes HT.out h1 h2 h3 h4
                  clear HT hz
                  by_cases z1 : n0 < z
                  · by_cases z2 : z ≤ ae
                    · by_cases z3 : z ≤ be
                      · have PA := hide (EPA.out (wf.drewN mq) z (below_drewN bel mq))
                        have PB := hide (EPB.out (wf.drewN mq) z (below_drewN bel mq))
                        obtain ⟨ea, hea⟩ : ∃ x, Sm.epo z 0 a = x := ⟨_, rfl⟩
                        obtain ⟨eb, heb⟩ : ∃ x, Sm.epo z 0 b = x := ⟨_, rfl⟩
                        rw [hea] at PA HN HY
                        rw [heb] at PB HN HY
                        clear hea heb
                        go_wp2_with fail
                        refine PA.out.mono ?_
                        rintro E w8 ⟨rfl, rfl⟩
                        go_wp2_with fail
                        refine PB.out.mono ?_
                        rintro E w9 ⟨rfl, rfl⟩
                        by_cases z4 : ea = eb
                        · have HT2 := hide (HY.out z1 z2 z3 z4)
                          have z5 : (ea == eb) = true := by simpa using z4
                          clear HN HY PA PB z4
                          go_wp2
                          go_roundw
                          case rel => exact ⟨k + 1, z, mq, by omega, by go_num, rfl, HT2, rfl⟩
                          case measure => simp [intOf]; omega
                        · have HT2 := hide (HN.out (fun h => z4 h.2.2.2))
                          have z5 : (ea == eb) = false := by simpa using z4
                          clear HN HY PA PB z4
                          go_wp2
                          go_roundw
                          case rel => exact ⟨k + 1, n0, mq, by omega, by go_num, rfl, HT2, rfl⟩
                          case measure => simp [intOf]; omega
                      · have HT2 := hide (HN.out (fun h => z3 h.2.2.1))
                        clear HN HY
                        go_wp2
                        go_roundw
                        case rel => exact ⟨k + 1, n0, mq, by omega, by go_num, rfl, HT2, rfl⟩
                        case measure => simp [intOf]; omega
                    · have HT2 := hide (HN.out (fun h => z2 h.2.1))
                      clear HN HY
                      go_wp2
                      go_roundw
                      case rel => exact ⟨k + 1, n0, mq, by omega, by go_num, rfl, HT2, rfl⟩
                      case measure => simp [intOf]; omega
                  · have HT2 := hide (HN.out (fun h => z1 h.1))
                    clear HN HY
                    go_wp2
                    go_roundw
                    case rel => exact ⟨k + 1, n0, mq, by omega, by go_num, rfl, HT2, rfl⟩
                    case measure => simp [intOf]; omega
                · have hlt' : ¬ (k : Int) < nl := by omega
                  have HFR := hide (BF.out n0 (by
                    have := HT.out
                    rw [List.take_of_length_le (by have := HNL.out; omega)] at this
                    exact this))
                  clear HT
                  go_wp2
                  go_ret2
                  exact ⟨_, rfl, HFR.out, below_drewN bel _⟩
    · have h5 : Sm.chk b be = 5 := Sm.chk_no fun k => h1 (Sm.chk_ok k)
      have hE : frE a ae b be = 5 := by unfold frE; rw [if_pos h0, h5]
      have HFR : Hid (Fr a ae b be 0) := hide (.inr ⟨by rw [hE]; decide, rfl⟩)
      rw [hE]
      simp only [h5] at Y
      clear h0 h1 h5 hE HA HB
      go_enter Try.func17, Try.ntmps17
      go_wp2_with fail
      refine X.out.mono ?_
      rintro E w1 ⟨rfl, m1, rfl⟩
      go_wp2_with fail
      refine (Y.out m1).mono ?_
      rintro E w2 ⟨rfl, m2, rfl⟩
      go_wp2
      go_ret2
      exact ⟨_, rfl, HFR.out, below_drewN (Below.refl _ _) _⟩
  · have h5 : Sm.chk a ae = 5 := Sm.chk_no fun k => h0 (Sm.chk_ok k)
    have hE : frE a ae b be = 5 := by unfold frE; rw [if_neg h0, h5]
    have HFR : Hid (Fr a ae b be 0) := hide (.inr ⟨by rw [hE]; decide, rfl⟩)
    rw [hE]
    rw [h5] at X
    clear h0 h5 hE HA HB Y
    go_enter Try.func17, Try.ntmps17
    go_wp2_with fail
    refine X.out.mono ?_
    rintro E w1 ⟨rfl, m1, rfl⟩
    go_wp2
    go_ret2
    exact ⟨_, rfl, HFR.out, below_drewN (Below.refl _ _) m1⟩

end Go.Proofs.Ytklpbcdkgjoheaa
