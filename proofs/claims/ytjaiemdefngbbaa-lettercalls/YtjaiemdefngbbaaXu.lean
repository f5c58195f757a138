/- The contract of the document's Encode. -/
import Derived.Test.YtjaiemdefngbbaaXt
import Derived.Test.YtjaiemdefngbbaaXk
namespace Go.Proofs.Ytjaiemdefngbbaa
open Go.RowKit
set_option linter.unusedVariables false

theorem enc3 {x : Int} (h : x ≤ 1048576) : (Vm.enc x.toNat).length ≤ 3 := Cm.enc_small h

theorem enc3n {x : Nat} (h : x ≤ 1048576) : (Vm.enc x).length ≤ 3 := Vm.sz_le 2 x (by omega)

theorem fl_bound3 : ∀ {l : List Sm.S}, (∀ z ∈ Mm.fl l, 0 ≤ z ∧ z ≤ 1048576) → (Pm.encs (Mm.fl l)).length ≤ 6 * l.length
  | [], _ => by simp [Mm.fl, Pm.encs]
  | s :: l, h => by
    have h1 := fl_bound3 (l := l) (fun z hz => h z (by simp [Mm.fl, hz]))
    have h2 := enc3 (h s.1 (by simp [Mm.fl])).2
    have h3 := enc3 (h s.2 (by simp [Mm.fl])).2
    simp [Mm.fl, Pm.encs]
    omega

set_option maxRecDepth 100000 in
set_option maxHeartbeats 2000000 in
theorem encodeR_3 (m : Mw) (w : World) (hi : IsM w m) (hf : FitM m) (hok : Mm.Ok m.m) (hk : m.k = 3) :
    Calls Try.prog 15 #[mv m] w fun E w' => ∃ vb, E = .returned (.tuple #[vb, .int .i64 0]) ∧ Own .u8 5 w.heap.size w' vb (Mm.enc m.m) ∧ Below w.heap.size w w' := by
  obtain ⟨hbd, _, _, _, _, _, hk1, hk2, hk3⟩ := Mm.hd_ok hok
  have e1 : 1 ≤ m.e := hok.1
  have e2 : m.e ≤ 1048576 := hok.2.1
  obtain ⟨ao, cap, hvs, _, _⟩ := hi.s.shape
  obtain ⟨ao2, cap2, hvc, _, _⟩ := hi.c.1.shape
  obtain ⟨w1, hw1, sz1, bel1, hA⟩ := newm' w m hvs hvc
  have HE : Hid (∀ W, Below w1.heap.size w1 W → Ei W w.heap.size (.int .i64 m.k) (.int .i64 m.e) (.int .u8 m.r) (.int .i64 m.n) (.slice ao m.ss.length cap) (.int .i64 m.f) (.int .i64 m.p) (.slice ao2 m.cs.length cap2)) := hide fun W hb => (hA.below hb).ei' hvs hvc
  have XX := hide (mcheckR_any m 0 w1 (hi.below bel1) hf (.inl ⟨rfl, hok⟩))
  rw [mv_eq hvs hvc] at XX
  rw [mv_eq hvs hvc]
  obtain ⟨c0, c1, c2, c3, c4, c5, c6, c7⟩ := hA.ei' hvs hvc
  have HI := hide hi
  have HOK := hide hok
  have HBD := hide hbd
  have HVS := hide hvs
  have HVC := hide hvc
  have HK := hide hk
  have hq1 : (m.k == 1) = false := by simp; omega
  have hq2 : (m.k == 2) = false := by simp; omega
  have hkb : 0 ≤ m.k ∧ m.k ≤ 3 := by omega
  clear hi hok hbd hvs hvc hA hk
  go_enter Try.func15, Try.ntmps15
  go_wp2_with fail
  refine XX.out.mono ?_
  rintro E w2 ⟨rfl, bel2⟩
  have sz2 := bel2.size
  have belA := bel2
  clear c0 c1 c2 c3 c4 c5 c6 c7 hw1 XX bel2
  obtain ⟨c0, c1, c2, c3, c4, c5, c6, c7⟩ := HE.out _ belA
  go_wp2_with fail
  refine (putR_any _ [] m.k _ (Is.nil _ _) (by simp) (by omega) (by omega)).mono ?_
  rintro E w3 ⟨v3, rfl, own3, bel3⟩
  have sz3 := bel3.size
  obtain ⟨P3, hP3⟩ : ∃ l, [] ++ Vm.enc (m.k : Int).toNat = l := ⟨_, rfl⟩
  have hl3 : P3.length ≤ 3 := by rw [← hP3, List.length_append]; have := enc3 (x := m.k) (by omega); simp; omega
  rw [hP3] at own3
  have HP3 := hide hP3
  have O3 := hide own3
  have belB : Below w1.heap.size w1 w3 := belA.trans (bel3.mono (by omega))
  clear belA
  have belA := belB
  clear c0 c1 c2 c3 c4 c5 c6 c7 own3 bel3 hP3 belB
  obtain ⟨c0, c1, c2, c3, c4, c5, c6, c7⟩ := HE.out _ belA
  go_wp2_with fail
  refine (putR_any _ P3 m.e _ (O3.out.is) (by omega) (by omega) (by omega)).mono ?_
  rintro E w4 ⟨v4, rfl, own4, bel4⟩
  have sz4 := bel4.size
  obtain ⟨P4, hP4⟩ : ∃ l, P3 ++ Vm.enc (m.e : Int).toNat = l := ⟨_, rfl⟩
  have hl4 : P4.length ≤ 6 := by rw [← hP4, List.length_append]; have := enc3 (x := m.e) (by omega); omega
  rw [hP4] at own4
  have HP4 := hide hP4
  have O4 := hide own4
  have belB : Below w1.heap.size w1 w4 := belA.trans (bel4.mono (by omega))
  clear belA
  have belA := belB
  clear c0 c1 c2 c3 c4 c5 c6 c7 own4 bel4 hP4 belB
  obtain ⟨c0, c1, c2, c3, c4, c5, c6, c7⟩ := HE.out _ belA
  have hn : 0 ≤ m.n ∧ m.n ≤ 1048576 := HBD.out m.n (by rw [Mm.hd_3 (show m.m.k = 3 from HK.out)]; simp [Mw.m])
  go_wp2_with fail
  refine (putR_any _ P4 m.n _ (O4.out.is) (by omega) (by omega) (by omega)).mono ?_
  rintro E w5 ⟨v5, rfl, own5, bel5⟩
  have sz5 := bel5.size
  obtain ⟨P5, hP5⟩ : ∃ l, P4 ++ Vm.enc (m.n : Int).toNat = l := ⟨_, rfl⟩
  have hl5 : P5.length ≤ 9 := by rw [← hP5, List.length_append]; have := enc3 (x := m.n) (by omega); omega
  rw [hP5] at own5
  have HP5 := hide hP5
  have O5 := hide own5
  have belB : Below w1.heap.size w1 w5 := belA.trans (bel5.mono (by omega))
  clear belA
  have belA := belB
  clear c0 c1 c2 c3 c4 c5 c6 c7 own5 bel5 hP5 belB
  obtain ⟨c0, c1, c2, c3, c4, c5, c6, c7⟩ := HE.out _ belA
  have own := O5.out.rebase (base' := w.heap.size) (by omega)
  have hres : P5 = Mm.enc m.m := by
    unfold Mm.enc
    rw [Mm.hd_3 (show m.m.k = 3 from HK.out)]
    have : m.m.cs = [] := by
      rcases HOK.out.2.2 with ⟨k, _⟩ | ⟨k, _⟩ | ⟨_, h⟩
      · have := HK.out; have : m.k = 1 := k; omega
      · have := HK.out; have : m.k = 2 := k; omega
      · exact h.2.2.2.2.2.2
    rw [this, ← HP5.out, ← HP4.out, ← HP3.out]
    simp [Pm.encs, Fm.cat, Mw.m]
  rw [hres] at own
  have bel0 : Below w.heap.size w w5 := bel1.trans (belA.mono (by omega))
  clear hres
  go_wp2
  refine bodyPost_ret (v := .tuple #[v5, .int .i64 0]) (by simp [results, Try.results15, go_sem]) rfl ?_
  exact ⟨_, rfl, own, bel0⟩

set_option maxRecDepth 100000 in
set_option maxHeartbeats 2000000 in
theorem encodeR_1 (m : Mw) (w : World) (hi : IsM w m) (hf : FitM m) (hok : Mm.Ok m.m) (hk : m.k = 1) :
    Calls Try.prog 15 #[mv m] w fun E w' => ∃ vb, E = .returned (.tuple #[vb, .int .i64 0]) ∧ Own .u8 5 w.heap.size w' vb (Mm.enc m.m) ∧ Below w.heap.size w w' := by
  obtain ⟨hbd, _, _, _, _, _, hk1, hk2, hk3⟩ := Mm.hd_ok hok
  have e1 : 1 ≤ m.e := hok.1
  have e2 : m.e ≤ 1048576 := hok.2.1
  obtain ⟨ao, cap, hvs, _, _⟩ := hi.s.shape
  obtain ⟨ao2, cap2, hvc, _, _⟩ := hi.c.1.shape
  obtain ⟨w1, hw1, sz1, bel1, hA⟩ := newm' w m hvs hvc
  have HE : Hid (∀ W, Below w1.heap.size w1 W → Ei W w.heap.size (.int .i64 m.k) (.int .i64 m.e) (.int .u8 m.r) (.int .i64 m.n) (.slice ao m.ss.length cap) (.int .i64 m.f) (.int .i64 m.p) (.slice ao2 m.cs.length cap2)) := hide fun W hb => (hA.below hb).ei' hvs hvc
  have XX := hide (mcheckR_any m 0 w1 (hi.below bel1) hf (.inl ⟨rfl, hok⟩))
  rw [mv_eq hvs hvc] at XX
  rw [mv_eq hvs hvc]
  obtain ⟨c0, c1, c2, c3, c4, c5, c6, c7⟩ := hA.ei' hvs hvc
  have HI := hide hi
  have HOK := hide hok
  have HBD := hide hbd
  have HVS := hide hvs
  have HVC := hide hvc
  have HK := hide hk
  have hq1 : (m.k == 1) = true := by simp [hk]
  have hkb : 0 ≤ m.k ∧ m.k ≤ 3 := by omega
  clear hi hok hbd hvs hvc hA hk
  go_enter Try.func15, Try.ntmps15
  go_wp2_with fail
  refine XX.out.mono ?_
  rintro E w2 ⟨rfl, bel2⟩
  have sz2 := bel2.size
  have belA := bel2
  clear c0 c1 c2 c3 c4 c5 c6 c7 hw1 XX bel2
  obtain ⟨c0, c1, c2, c3, c4, c5, c6, c7⟩ := HE.out _ belA
  go_wp2_with fail
  refine (putR_any _ [] m.k _ (Is.nil _ _) (by simp) (by omega) (by omega)).mono ?_
  rintro E w3 ⟨v3, rfl, own3, bel3⟩
  have sz3 := bel3.size
  obtain ⟨P3, hP3⟩ : ∃ l, [] ++ Vm.enc (m.k : Int).toNat = l := ⟨_, rfl⟩
  have hl3 : P3.length ≤ 3 := by rw [← hP3, List.length_append]; have := enc3 (x := m.k) (by omega); simp; omega
  rw [hP3] at own3
  have HP3 := hide hP3
  have O3 := hide own3
  have belB : Below w1.heap.size w1 w3 := belA.trans (bel3.mono (by omega))
  clear belA
  have belA := belB
  clear c0 c1 c2 c3 c4 c5 c6 c7 own3 bel3 hP3 belB
  obtain ⟨c0, c1, c2, c3, c4, c5, c6, c7⟩ := HE.out _ belA
  go_wp2_with fail
  refine (putR_any _ P3 m.e _ (O3.out.is) (by omega) (by omega) (by omega)).mono ?_
  rintro E w4 ⟨v4, rfl, own4, bel4⟩
  have sz4 := bel4.size
  obtain ⟨P4, hP4⟩ : ∃ l, P3 ++ Vm.enc (m.e : Int).toNat = l := ⟨_, rfl⟩
  have hl4 : P4.length ≤ 6 := by rw [← hP4, List.length_append]; have := enc3 (x := m.e) (by omega); omega
  rw [hP4] at own4
  have HP4 := hide hP4
  have O4 := hide own4
  have belB : Below w1.heap.size w1 w4 := belA.trans (bel4.mono (by omega))
  clear belA
  have belA := belB
  clear c0 c1 c2 c3 c4 c5 c6 c7 own4 bel4 hP4 belB
  obtain ⟨c0, c1, c2, c3, c4, c5, c6, c7⟩ := HE.out _ belA
  have hd1 := Mm.hd_1 (show m.m.k = 1 from HK.out)
  have hn : 0 ≤ m.n ∧ m.n ≤ 1048576 := HBD.out m.n (by rw [hd1]; simp [Mw.m])
  have hr : 0 ≤ m.r ∧ m.r ≤ 1048576 := HBD.out m.r (by rw [hd1]; simp [Mw.m])
  have hs : (0 : Int) ≤ m.ss.length ∧ (m.ss.length : Int) ≤ 1048576 := HBD.out m.ss.length (by rw [hd1]; simp [Mw.m])
  have hss : ∀ z ∈ Mm.fl m.ss, 0 ≤ z ∧ z ≤ 1048576 := fun z hz => HBD.out z (by rw [hd1]; exact List.mem_append_right _ hz)
  have HSS := hide hss
  have hr3 : m.r ≤ 3 := (hk1 HK.out).2.2.1
  have hwr : IntKind.i64.wrap m.r = m.r := wrap_i64_small _ (by omega) (by omega)
  clear hd1 hss hk1 hk2 hk3
  go_wp2_with fail
  refine (putR_any _ P4 m.r _ (O4.out.is) (by omega) (by omega) (by omega)).mono ?_
  rintro E w5 ⟨v5, rfl, own5, bel5⟩
  have sz5 := bel5.size
  obtain ⟨P5, hP5⟩ : ∃ l, P4 ++ Vm.enc (m.r : Int).toNat = l := ⟨_, rfl⟩
  have hl5 : P5.length ≤ 9 := by rw [← hP5, List.length_append]; have := enc3 (x := m.r) (by omega); omega
  rw [hP5] at own5
  have HP5 := hide hP5
  have O5 := hide own5
  have belB : Below w1.heap.size w1 w5 := belA.trans (bel5.mono (by omega))
  clear belA
  have belA := belB
  clear c0 c1 c2 c3 c4 c5 c6 c7 own5 bel5 hP5 belB
  obtain ⟨c0, c1, c2, c3, c4, c5, c6, c7⟩ := HE.out _ belA
  go_wp2_with fail
  refine (putR_any _ P5 m.n _ (O5.out.is) (by omega) (by omega) (by omega)).mono ?_
  rintro E w6 ⟨v6, rfl, own6, bel6⟩
  have sz6 := bel6.size
  obtain ⟨P6, hP6⟩ : ∃ l, P5 ++ Vm.enc (m.n : Int).toNat = l := ⟨_, rfl⟩
  have hl6 : P6.length ≤ 12 := by rw [← hP6, List.length_append]; have := enc3 (x := m.n) (by omega); omega
  rw [hP6] at own6
  have HP6 := hide hP6
  have O6 := hide own6
  have belB : Below w1.heap.size w1 w6 := belA.trans (bel6.mono (by omega))
  clear belA
  have belA := belB
  clear c0 c1 c2 c3 c4 c5 c6 c7 own6 bel6 hP6 belB
  obtain ⟨c0, c1, c2, c3, c4, c5, c6, c7⟩ := HE.out _ belA
  go_wp2_with fail
  refine (putR_any _ P6 (m.ss.length : Int) _ (O6.out.is) (by omega) (by omega) (by omega)).mono ?_
  rintro E w7 ⟨v7, rfl, own7, bel7⟩
  have sz7 := bel7.size
  obtain ⟨P7, hP7⟩ : ∃ l, P6 ++ Vm.enc ((m.ss.length : Int) : Int).toNat = l := ⟨_, rfl⟩
  have hl7 : P7.length ≤ 15 := by rw [← hP7, List.length_append]; have := enc3 (x := (m.ss.length : Int)) (by omega); omega
  rw [hP7] at own7
  have HP7 := hide hP7
  have O7 := hide own7
  have belB : Below w1.heap.size w1 w7 := belA.trans (bel7.mono (by omega))
  clear belA
  have belA := belB
  clear c0 c1 c2 c3 c4 c5 c6 c7 own7 bel7 hP7 belB
  obtain ⟨c0, c1, c2, c3, c4, c5, c6, c7⟩ := HE.out _ belA
  have RW : Hid (0 < m.ss.length → ∃ b o c, (.slice ao m.ss.length cap : Value) = .slice (some ⟨b, o, none⟩) m.ss.length c ∧ b < w.heap.size ∧ ∀ (i : Nat) (s : Sm.S), m.ss[i]? = some s → w.cell? ⟨b, o + i * 2, none⟩ = some (.int .i64 s.1) ∧ w.cell? ⟨b, o + i * 2 + 1, none⟩ = some (.int .i64 s.2)) := hide fun h => by
    obtain ⟨b, o, c, h1, _, _, h2, h3⟩ := rowS_full HI.out.s h
    exact ⟨b, o, c, by rw [← HVS.out]; exact h1, h2, h3⟩
  have HT0 : Hid (Own .u8 5 (w.heap.size + 1) w7 v7 (P7 ++ Pm.encs (Mm.fl (m.ss.take 0)))) := hide (by
    have := O7.out.rebase (base' := w.heap.size + 1) (by omega)
    simpa [Mm.fl, Pm.encs] using this)
  generalize hn' : m.ss.length = n at *
  have HN := hide hn'
  clear hn'
  go_wp2
  go_loopw [5, 6] (fun bv i wr => ∃ (k : Nat), k ≤ n ∧ i = .int .i64 k ∧ Below w1.heap.size w1 wr ∧ Hid (Own .u8 5 (w.heap.size + 1) wr bv (P7 ++ Pm.encs (Mm.fl (m.ss.take k))))) (fun _ i _ => n - (intOf i).toNat)
  case atStart => exact ⟨0, by omega, rfl, belA, HT0⟩
  case round =>
    obtain ⟨k, hk, rfl, bel, HT⟩ := hrel
    have sz := bel.size
    have belW : Below w.heap.size w wr := bel1.trans (bel.mono (by omega))
    clear c0 c1 c2 c3 c4 c5 c6 c7
    obtain ⟨c0, c1, c2, c3, c4, c5, c6, c7⟩ := HE.out _ bel
    by_cases hlt : k < n
    · obtain ⟨b1, o1, x1, hv1, hB1, hc1⟩ := RW.out (by omega)
      simp only [Value.slice.injEq, true_and] at hv1
      obtain ⟨rfl, rfl⟩ := hv1
      obtain ⟨s, hs'⟩ := at_of (l := m.ss) (k := k) (by have := HN.out; omega)
      obtain ⟨f0, f1⟩ := hc1 k s hs'
      have d0 := (belW.cell (p := ⟨b1, o1 + k * 2, none⟩) hB1).trans f0
      obtain ⟨hb1, hb2⟩ := fl_mem hs' HSS.out
      have hlt' : (k : Int) < n := by omega
      have hfb := fl_bound (k := k) HSS.out
      rw [HN.out] at hfb
      have HF := hide (fl_snoc hs')
      have hle : (P7 ++ Pm.encs (Mm.fl (m.ss.take k))).length ≤ 100000000 := by rw [List.length_append]; omega
      clear hs' hc1 hfb
      go_wp2_with fail
      refine (putR_any _ _ s.1 _ HT.out.is (by omega) (by omega) (by omega)).mono ?_
      rintro E wa ⟨va, rfl, owna, bela⟩
      have sza := bela.size
      have belWa : Below w.heap.size w wa := belW.trans (bela.mono (by omega))
      have d1 := (belWa.cell (p := ⟨b1, o1 + k * 2 + 1, none⟩) hB1).trans f1
      have bel1a : Below w1.heap.size w1 wa := bel.trans (bela.mono (by omega))
      clear c0 c1 c2 c3 c4 c5 c6 c7 d0 f0 f1
      obtain ⟨c0, c1, c2, c3, c4, c5, c6, c7⟩ := HE.out _ bel1a
      have hl3 := enc3 (x := s.1) (by omega)
      go_wp2_with fail
      refine (putR_any _ _ s.2 _ owna.is (by rw [List.length_append]; omega) (by omega) (by omega)).mono ?_
      rintro E wb ⟨vb, rfl, ownb, belb⟩
      have bel1b : Below w1.heap.size w1 wb := bel1a.trans (belb.mono (by omega))
      have HTb : Hid (Own .u8 5 (w.heap.size + 1) wb vb (P7 ++ Pm.encs (Mm.fl (m.ss.take (k + 1))))) := hide (by
        have := ownb.rebase (base' := w.heap.size + 1) (by omega)
        rw [HF.out, Pm.encs_app]
        simpa [Pm.encs] using this)
      clear owna ownb bela belb d1
      go_wp2
      go_roundw
      case rel => exact ⟨k + 1, by omega, by go_num, bel1b, HTb⟩
      case measure => simp [intOf]; omega
    · have hlt' : ¬ (k : Int) < n := by omega
      have own := HT.out.rebase (base' := w.heap.size) (by omega)
      rw [List.take_of_length_le (by rw [HN.out]; omega)] at own
      have hres : P7 ++ Pm.encs (Mm.fl m.ss) = Mm.enc m.m := by
        unfold Mm.enc
        rw [Mm.hd_1 (show m.m.k = 1 from HK.out)]
        have : m.m.cs = [] := by
          rcases HOK.out.2.2 with ⟨_, h⟩ | ⟨k, _⟩ | ⟨k, _⟩
          · exact h.2.2.2.2.2.2
          · have := HK.out; have : m.k = 2 := k; omega
          · have := HK.out; have : m.k = 3 := k; omega
        rw [this, ← HP7.out, ← HP6.out, ← HP5.out, ← HP4.out, ← HP3.out, ← HN.out]
        simp [Pm.encs, Fm.cat, Mw.m]
      rw [hres] at own
      clear hres HT
      go_wp2
      refine bodyPost_ret (v := .tuple #[u5, .int .i64 0]) (by simp [results, Try.results15, go_sem]) rfl ?_
      exact ⟨_, rfl, own, belW⟩

set_option maxRecDepth 100000 in
set_option maxHeartbeats 2000000 in
theorem encodeR_2 (m : Mw) (w : World) (hi : IsM w m) (hf : FitM m) (hok : Mm.Ok m.m) (hk : m.k = 2) :
    Calls Try.prog 15 #[mv m] w fun E w' => ∃ vb, E = .returned (.tuple #[vb, .int .i64 0]) ∧ Own .u8 5 w.heap.size w' vb (Mm.enc m.m) ∧ Below w.heap.size w w' := by
  obtain ⟨hbd, _, _, _, _, _, hk1, hk2, hk3⟩ := Mm.hd_ok hok
  have e1 : 1 ≤ m.e := hok.1
  have e2 : m.e ≤ 1048576 := hok.2.1
  obtain ⟨ao, cap, hvs, _, _⟩ := hi.s.shape
  obtain ⟨ao2, cap2, hvc, _, _⟩ := hi.c.1.shape
  obtain ⟨w1, hw1, sz1, bel1, hA⟩ := newm' w m hvs hvc
  have HE : Hid (∀ W, Below w1.heap.size w1 W → Ei W w.heap.size (.int .i64 m.k) (.int .i64 m.e) (.int .u8 m.r) (.int .i64 m.n) (.slice ao m.ss.length cap) (.int .i64 m.f) (.int .i64 m.p) (.slice ao2 m.cs.length cap2)) := hide fun W hb => (hA.below hb).ei' hvs hvc
  have XX := hide (mcheckR_any m 0 w1 (hi.below bel1) hf (.inl ⟨rfl, hok⟩))
  rw [mv_eq hvs hvc] at XX
  rw [mv_eq hvs hvc]
  obtain ⟨c0, c1, c2, c3, c4, c5, c6, c7⟩ := hA.ei' hvs hvc
  have HI := hide hi
  have HOK := hide hok
  have HBD := hide hbd
  have HVS := hide hvs
  have HVC := hide hvc
  have HK := hide hk
  have hq1 : (m.k == 1) = false := by simp; omega
  have hq2 : (m.k == 2) = true := by simp [hk]
  have hkb : 0 ≤ m.k ∧ m.k ≤ 3 := by omega
  clear hi hok hbd hvs hvc hA hk
  go_enter Try.func15, Try.ntmps15
  go_wp2_with fail
  refine XX.out.mono ?_
  rintro E w2 ⟨rfl, bel2⟩
  have sz2 := bel2.size
  have belA := bel2
  clear c0 c1 c2 c3 c4 c5 c6 c7 hw1 XX bel2
  obtain ⟨c0, c1, c2, c3, c4, c5, c6, c7⟩ := HE.out _ belA
  go_wp2_with fail
  refine (putR_any _ [] m.k _ (Is.nil _ _) (by simp) (by omega) (by omega)).mono ?_
  rintro E w3 ⟨v3, rfl, own3, bel3⟩
  have sz3 := bel3.size
  obtain ⟨P3, hP3⟩ : ∃ l, [] ++ Vm.enc (m.k : Int).toNat = l := ⟨_, rfl⟩
  have hl3 : P3.length ≤ 3 := by rw [← hP3, List.length_append]; have := enc3 (x := m.k) (by omega); simp; omega
  rw [hP3] at own3
  have HP3 := hide hP3
  have O3 := hide own3
  have belB : Below w1.heap.size w1 w3 := belA.trans (bel3.mono (by omega))
  clear belA
  have belA := belB
  clear c0 c1 c2 c3 c4 c5 c6 c7 own3 bel3 hP3 belB
  obtain ⟨c0, c1, c2, c3, c4, c5, c6, c7⟩ := HE.out _ belA
  go_wp2_with fail
  refine (putR_any _ P3 m.e _ (O3.out.is) (by omega) (by omega) (by omega)).mono ?_
  rintro E w4 ⟨v4, rfl, own4, bel4⟩
  have sz4 := bel4.size
  obtain ⟨P4, hP4⟩ : ∃ l, P3 ++ Vm.enc (m.e : Int).toNat = l := ⟨_, rfl⟩
  have hl4 : P4.length ≤ 6 := by rw [← hP4, List.length_append]; have := enc3 (x := m.e) (by omega); omega
  rw [hP4] at own4
  have HP4 := hide hP4
  have O4 := hide own4
  have belB : Below w1.heap.size w1 w4 := belA.trans (bel4.mono (by omega))
  clear belA
  have belA := belB
  clear c0 c1 c2 c3 c4 c5 c6 c7 own4 bel4 hP4 belB
  obtain ⟨c0, c1, c2, c3, c4, c5, c6, c7⟩ := HE.out _ belA
  have hd2 := Mm.hd_2 (show m.m.k = 2 from HK.out)
  have hcl : m.m.cs.length = m.cs.length := cvs_length _
  have hff : 0 ≤ m.f ∧ m.f ≤ 1048576 := HBD.out m.f (by rw [hd2]; simp [Mw.m])
  have hpp : 0 ≤ m.p ∧ m.p ≤ 1048576 := HBD.out m.p (by rw [hd2]; simp [Mw.m])
  have hs : m.cs.length ≤ 4 := by have := (hk2 HK.out).2.2.2.2; omega
  have HCC : Hid (∀ c ∈ cvs m.cs, Cm.chk c.e c.n c.l = 0) := hide (Mm.ok_cs HOK.out)
  have HF := hide hf.fc
  clear hd2 hk1 hk2 hk3 hf hcl
  go_wp2_with fail
  refine (putR_any _ P4 m.f _ (O4.out.is) (by omega) (by omega) (by omega)).mono ?_
  rintro E w5 ⟨v5, rfl, own5, bel5⟩
  have sz5 := bel5.size
  obtain ⟨P5, hP5⟩ : ∃ l, P4 ++ Vm.enc (m.f : Int).toNat = l := ⟨_, rfl⟩
  have hl5 : P5.length ≤ 9 := by rw [← hP5, List.length_append]; have := enc3 (x := m.f) (by omega); omega
  rw [hP5] at own5
  have HP5 := hide hP5
  have O5 := hide own5
  have belB : Below w1.heap.size w1 w5 := belA.trans (bel5.mono (by omega))
  clear belA
  have belA := belB
  clear c0 c1 c2 c3 c4 c5 c6 c7 own5 bel5 hP5 belB
  obtain ⟨c0, c1, c2, c3, c4, c5, c6, c7⟩ := HE.out _ belA
  go_wp2_with fail
  refine (putR_any _ P5 m.p _ (O5.out.is) (by omega) (by omega) (by omega)).mono ?_
  rintro E w6 ⟨v6, rfl, own6, bel6⟩
  have sz6 := bel6.size
  obtain ⟨P6, hP6⟩ : ∃ l, P5 ++ Vm.enc (m.p : Int).toNat = l := ⟨_, rfl⟩
  have hl6 : P6.length ≤ 12 := by rw [← hP6, List.length_append]; have := enc3 (x := m.p) (by omega); omega
  rw [hP6] at own6
  have HP6 := hide hP6
  have O6 := hide own6
  have belB : Below w1.heap.size w1 w6 := belA.trans (bel6.mono (by omega))
  clear belA
  have belA := belB
  clear c0 c1 c2 c3 c4 c5 c6 c7 own6 bel6 hP6 belB
  obtain ⟨c0, c1, c2, c3, c4, c5, c6, c7⟩ := HE.out _ belA
  go_wp2_with fail
  refine (putR_any _ P6 (m.cs.length : Int) _ (O6.out.is) (by omega) (by omega) (by omega)).mono ?_
  rintro E w7 ⟨v7, rfl, own7, bel7⟩
  have sz7 := bel7.size
  obtain ⟨P7, hP7⟩ : ∃ l, P6 ++ Vm.enc ((m.cs.length : Int) : Int).toNat = l := ⟨_, rfl⟩
  have hl7 : P7.length ≤ 15 := by rw [← hP7, List.length_append]; have := enc3 (x := (m.cs.length : Int)) (by omega); omega
  rw [hP7] at own7
  have HP7 := hide hP7
  have O7 := hide own7
  have belB : Below w1.heap.size w1 w7 := belA.trans (bel7.mono (by omega))
  clear belA
  have belA := belB
  clear c0 c1 c2 c3 c4 c5 c6 c7 own7 bel7 hP7 belB
  obtain ⟨c0, c1, c2, c3, c4, c5, c6, c7⟩ := HE.out _ belA
  have RW : Hid (0 < m.cs.length → ∃ b1 o1 c1, (.slice ao2 m.cs.length cap2 : Value) = .slice (some ⟨b1, o1, none⟩) m.cs.length c1 ∧ b1 < w.heap.size ∧ ∀ i c, m.cs[i]? = some c → w.cell? ⟨b1, o1 + i * 3, none⟩ = some (.int .i64 c.e) ∧ w.cell? ⟨b1, o1 + i * 3 + 1, none⟩ = some (.int .i64 c.n) ∧ w.cell? ⟨b1, o1 + i * 3 + 2, none⟩ = some c.v) := hide (by rw [← HVC.out]; exact isC_cells HI.out.c)
  have HT0 : Hid (Own .u8 5 (w.heap.size + 1) w7 v7 (P7 ++ Fm.cat (((cvs m.cs).take 0).map Mm.cb))) := hide (by
    have := O7.out.rebase (base' := w.heap.size + 1) (by omega)
    simpa [Fm.cat] using this)
  generalize hn' : m.cs.length = n at *
  have HN := hide hn'
  clear hn'
  go_wp2
  go_loopw [5, 7] (fun bv i wr => ∃ (k : Nat), k ≤ n ∧ i = .int .i64 k ∧ Below w1.heap.size w1 wr ∧ Hid (Own .u8 5 (w.heap.size + 1) wr bv (P7 ++ Fm.cat (((cvs m.cs).take k).map Mm.cb)))) (fun _ i _ => n - (intOf i).toNat)
  case atStart => exact ⟨0, by omega, rfl, belA, HT0⟩
  case round =>
    obtain ⟨k, hk, rfl, bel, HT⟩ := hrel
    have sz := bel.size
    have belW : Below w.heap.size w wr := bel1.trans (bel.mono (by omega))
    clear c0 c1 c2 c3 c4 c5 c6 c7
    obtain ⟨c0, c1, c2, c3, c4, c5, c6, c7⟩ := HE.out _ bel
    by_cases hlt : k < n
    · obtain ⟨b1, o1, x1, hv1, hB1, hc1⟩ := RW.out (by omega)
      simp only [Value.slice.injEq, true_and] at hv1
      obtain ⟨rfl, rfl⟩ := hv1
      obtain ⟨s, hs'⟩ := at_of (l := m.cs) (k := k) (by have := HN.out; omega)
      have hmem := List.mem_of_getElem? hs'
      obtain ⟨d0, d1, d2⟩ := row_at hc1 belW hB1 hs'
      have hcg : (cvs m.cs)[k]? = some s.c := by rw [cvs_get, hs']; rfl
      have hck : Cm.chk s.e s.n s.l = 0 := HCC.out s.c (List.mem_of_getElem? hcg)
      have hlt' : (k : Int) < n := by omega
      have io := (HI.out.c.2 s hmem).1.below belW
      obtain ⟨hfo, hlo⟩ := HF.out s hmem
      have CU := hide (cencR_any s.e s.n s.v s.l wr io hfo (by omega))
      rw [hck, Cm.out_ok hck] at CU
      have hcs : (Fm.cat (((cvs m.cs).take k).map Mm.cb)).length ≤ 2000 := by
        have h1 := cat_small (l := (cvs m.cs).take k) (fun c hc => HCC.out c (List.mem_of_mem_take hc))
        have h2 : ((cvs m.cs).take k).length ≤ (cvs m.cs).length := List.length_take_le' _ _
        rw [cvs_length, HN.out] at h2
        omega
      have hel : (Cm.encC s.e s.n s.l).length ≤ 430 := Cm.encC_small hck
      have HF2 := hide (cat_take hcg)
      have hcb : Mm.cb s.c = Cm.encC s.e s.n s.l := rfl
      rw [hcb] at HF2
      unfold cmv at CU
      generalize Cm.encC s.e s.n s.l = whole at *
      generalize hQ : Fm.cat (((cvs m.cs).take k).map Mm.cb) = Q at *
      have HQ := hide hQ
      clear hs' hmem hc1 hck hcb io hcg hQ
      go_wp2_with fail
      refine CU.out.mono ?_
      rintro E wa ⟨vw, rfl, owna, bela⟩
      have sza := bela.size
      obtain ⟨aw, cw, hvw, _, _⟩ := owna.is.shape
      subst hvw
      have HTa := hide (HT.out.below bela)
      have bel1a : Below w1.heap.size w1 wa := bel.trans (bela.mono (by omega))
      have Oa := hide owna
      clear CU owna d0 d1 d2 bela
      go_wp2_with fail
      refine (putR_any _ _ (whole.length : Int) _ HTa.out.is (by rw [List.length_append]; omega) (by omega) (by omega)).mono ?_
      rintro E wb ⟨vb, rfl, ownb, belb⟩
      have szb := belb.size
      have bel1b : Below w1.heap.size w1 wb := bel1a.trans (belb.mono (by omega))
      have Ib := Oa.out.is.below belb
      have Ob := hide (ownb.rebase (base' := w.heap.size + 1) (by omega))
      have hl3 := enc3 (x := (whole.length : Int)) (by omega)
      clear ownb belb
      go_wp2_with (at_builtin; refine wpList_append_is rfl (.tmp 102) (.tmp 103) 22 rfl .u8 5 (w.heap.size + 1) 1 Try.underlying22 Try.info5 (by decide) _ _ rfl Ob.out _ whole rfl Ib (by rw [List.length_append, List.length_append]; omega) (by omega) ?_)
      intro vd wd ownd beld _
      have bel1d : Below w1.heap.size w1 wd := bel1b.trans (beld.mono (by omega))
      have HTd : Hid (Own .u8 5 (w.heap.size + 1) wd vd (P7 ++ Fm.cat (((cvs m.cs).take (k + 1)).map Mm.cb))) := hide (by
        rw [HF2.out]
        exact ownd)
      clear ownd beld Ob Ib
      go_wp2
      go_roundw
      case rel => exact ⟨k + 1, by omega, by go_num, bel1d, HTd⟩
      case measure => simp [intOf]; omega
    · have hlt' : ¬ (k : Int) < n := by omega
      have own := HT.out.rebase (base' := w.heap.size) (by omega)
      rw [List.take_of_length_le (by rw [cvs_length, HN.out]; omega)] at own
      have hres : P7 ++ Fm.cat ((cvs m.cs).map Mm.cb) = Mm.enc m.m := by
        unfold Mm.enc
        rw [Mm.hd_2 (show m.m.k = 2 from HK.out), ← HP7.out, ← HP6.out, ← HP5.out, ← HP4.out, ← HP3.out, ← HN.out]
        simp [Pm.encs, Mw.m, cvs_length]
      rw [hres] at own
      clear hres HT
      go_wp2
      refine bodyPost_ret (v := .tuple #[u5, .int .i64 0]) (by simp [results, Try.results15, go_sem]) rfl ?_
      exact ⟨_, rfl, own, belW⟩

set_option maxHeartbeats 1000000 in
theorem mencodeR_any (m : Mw) (bs : List Int) (c : Int) (w : World) (hi : IsM w m) (hf : FitM m) (hr : EncR m.m bs c) :
    Calls Try.prog 15 #[mv m] w fun E w' => ∃ vb, E = .returned (.tuple #[vb, .int .i64 c]) ∧ Own .u8 5 w.heap.size w' vb bs ∧ Below w.heap.size w w' := by
  rcases hr with ⟨rfl, hok, rfl⟩ | ⟨rfl, hok, rfl⟩
  · rcases hok.2.2 with ⟨k, _⟩ | ⟨k, _⟩ | ⟨k, _⟩
    · exact encodeR_1 m w hi hf hok k
    · exact encodeR_2 m w hi hf hok k
    · exact encodeR_3 m w hi hf hok k
  · unfold mv
    obtain ⟨w1, hw1, sz1, bel1, hA⟩ := newm w m
    obtain ⟨c0, c1, c2, c3, c4, c5, c6, c7⟩ := hA.ei
    have HC := hide (mcheckR_any m 2 w1 (hi.below bel1) hf (.inr ⟨rfl, hok⟩))
    clear hA hok
    go_enter Try.func15, Try.ntmps15
    go_wp2_with fail
    refine HC.out.mono ?_
    rintro E w2 ⟨rfl, bel2⟩
    have bel02 := bel1.trans (bel2.mono (by omega))
    go_wp2
    refine bodyPost_ret (v := .tuple #[.slice none 0 0, .int .i64 2]) (by simp [results, Try.results15, go_sem]) rfl ?_
    exact ⟨_, rfl, Own.nil _ _ _ _, bel02⟩

end Go.Proofs.Ytjaiemdefngbbaa
