/- The contract of gone: the numbers gone over, up to some, twice. -/
import Derived.Test.YtadfbmglbaebiaaLpa
import Derived.Test.YtadfbmglbaebiaaLq
import Derived.Test.YtadfbmglbaebiaaLfl
namespace Go.Proofs.Ytadfbmglbaebiaa
open Go.RowKit Go.Shelf
set_option linter.unusedVariables false
attribute [local go_sem] Oper.semAt_some

set_option maxRecDepth 100000 in
set_option maxHeartbeats 16000000 in
theorem gone0_any (p : Nat) (F : Nat → Prop) (w : World) (st : Lm.Ls) (v : Value) (ns : List Lw) (stop : Int) (h : Lk false p F w st) (hok : Lm.Ok st) (hlast : st.last ≤ 9223372036854775807) (hr : RowL w v ns) (hm : ns.map Lw.l = st.fl) (h0 : ns.length = 0) (hs : I64 stop) :
    Calls Try.prog 23 #[.pointer (some ⟨p, 0, none⟩), v, .int .i64 stop] w fun E w' => E = .returned (.bool true) ∧ Below w.heap.size w w' := by
  obtain ⟨w1, hw1, sz1, b1, B1⟩ := blk_step w #[v] 45
  obtain ⟨w2, hw2, sz2, b2, B2⟩ := blk_step w1 #[.bool false] 4
  rw [sz1] at B2 b2
  have b02 : Below w.heap.size w w2 := b1.trans (b2.mono (by omega))
  have AL := hide (all_any p F w2 st (h.below b02) hok hlast)
  have B1' := (b2.block w.heap.size (by omega)).trans B1
  obtain ⟨zs, hzs⟩ : ∃ zs, st.fl.map Lm.Lt.n = zs := ⟨_, rfl⟩
  have hnl : ns.length = zs.length := by rw [← hzs, List.length_map, ← hm, List.length_map]
  have hzl : zs.length ≤ 512 := by rw [← hzs, List.length_map]; exact hok.len
  have hza : ∀ (i : Nat) (r : Lw), ns[i]? = some r → zs[i]? = some r.n := fun i r hr => by
    rw [← hzs, List.getElem?_map, ← hm, List.getElem?_map, hr]
    rfl
  have hup : ∀ (i j : Nat) (x y : Int), i < j → zs[i]? = some x → zs[j]? = some y → x < y := fun i j x y hij hx hy => by
    rw [← hzs, List.getElem?_map, Option.map_eq_some_iff] at hx hy
    obtain ⟨a, ha, rfl⟩ := hx
    obtain ⟨c, hc, rfl⟩ := hy
    obtain ⟨a1, a2⟩ := List.getElem?_eq_some_iff.1 ha
    obtain ⟨c1, c2⟩ := List.getElem?_eq_some_iff.1 hc
    have := List.pairwise_iff_getElem.1 hok.up i j a1 c1 hij
    rwa [a2, c2] at this
  rw [hzs] at AL
  have hz0 : zs = [] := List.eq_nil_of_length_eq_zero (by omega)
  subst hz0
  have HB1 := hide B1'
  have HB2 := hide B2
  have HZA := hide hza
  have HUP := hide hup
  have HNL := hide hnl
  have HR := hide hr
  replace sz2 : w2.heap.size = w.heap.size + 2 := by omega
  obtain ⟨va, vc, hv, _, _⟩ := hr.1.shape
  rw [h0] at hv
  have HV := hide hv
  rw [hv] at hw1 ⊢
  clear h hok hr hm hv B1 B1' B2 hza hup b1 b2 hzs hnl h0 hzl
  refine (callsIn_wide (n := 6)).1 ?_
  refine callsIn_of_wp_marks Try.func23 rfl trivial ?_ rfl
  refine wpIn_wide.2 (calm_wp ?_)
  simp only [Try.ntmps23, List.size_toArray, List.length_cons, List.length_nil, Nat.reduceAdd, Nat.reduceSub, Array.replicate_succ, Array.replicate_zero, List.push_toArray, List.append_toArray, List.nil_append, List.cons_append]
  go_wp2_with fail
  refine AL.out.mono ?_
  rintro E w3 ⟨B, rfl, sq, b3⟩
  have hq := Try.eqnilF w3 (.func 43) #[] #[.pointer (some ⟨B, 0, none⟩)]
  have A3 := (b3.block w.heap.size (by omega)).trans HB1.out
  have R3 := (b3.block (w.heap.size + 1) (by omega)).trans HB2.out
  have s3 := b3.size
  obtain ⟨w4, hw4, sz4, b4, B4⟩ := blk_step w3 #[.int .i64 0] 3
  have hs4 : w4.setCell ⟨w3.heap.size, 0, none⟩ (.int .i64 0) = w4 := set_same B4 rfl
  have e4 := blk_cell B4 0 rfl
  have A4 := (b4.block w.heap.size (by omega)).trans A3
  have R4 := (b4.block (w.heap.size + 1) (by omega)).trans R3
  have a3 := blk_cell A3 0 rfl
  have a4 := blk_cell A4 0 rfl
  have f4 := blk_froz B4 0
  rw [HV.out] at a3 a4
  have b24 : Below w2.heap.size w2 w4 := b3.trans (b4.mono b3.size)
  have sq4 := sq.below b4
  obtain ⟨w5, hw5⟩ : ∃ w5, w4 = w5 := ⟨_, rfl⟩
  subst hw5
  have b05 : Below w.heap.size w w4 := b02.trans (b24.mono (by omega))
  have FW : Hid (∀ W, Below w4.heap.size w4 W → (W.cell? ⟨w.heap.size, 0, none⟩ = some (.slice va 0 vc) ∧ W.cell? ⟨w3.heap.size, 0, none⟩ = some (.int .i64 0)) ∧ W.heap[w.heap.size + 1]? = some (.cells #[.bool false] 4 (0, 0)) ∧ Seq B w2.heap.size W []) := hide fun W hW => by
    have x1 := (hW.block w.heap.size (by omega)).trans A4
    rw [HV.out] at x1
    have x2 := (hW.block w3.heap.size (by omega)).trans B4
    have x3 := (hW.block (w.heap.size + 1) (by omega)).trans R4
    exact ⟨⟨blk_cell x1 0 rfl, blk_cell x2 0 rfl⟩, x3, sq4.below hW⟩
  have s5 : w3.heap.size < w4.heap.size := by omega
  have HS5 := hide s5
  have b05' := hide b05
  clear B4 A3 A4 R3 R4 sq sq4 b24 sz4
  go_wp2
  refine wp_loop_rounds 3 ?_
  have WB0 : Hid (Below w4.heap.size w4 w4) := hide (Below.refl _ _)
  have ZW : Hid (∀ W, Below w4.heap.size w4 W → w4.heap.size ≤ W.heap.size) := hide fun W hb => hb.size
  refine rounds_cut fun R0 hR0 => ?_
  obtain ⟨V0, hV0, szV0, bV0, BV0⟩ := blk_step w4 #[.int .i64 0] 3
  have hs0 : V0.setCell ⟨w4.heap.size, 0, none⟩ (.int .i64 0) = V0 := set_same BV0 rfl
  have cV0 := blk_cell BV0 0 rfl
  have fV0 := blk_froz BV0 0
  have WV0 : Hid (Below w4.heap.size w4 V0) := hide (WB0.out.trans (bV0.mono (ZW.out _ WB0.out)))
  have zz0 := ZW.out _ WB0.out
  have HZ0 := hide szV0
  have HBV0 := hide BV0
  have HbV0 := hide bV0
  have sqV0 := (FW.out V0 WV0.out).2.2
  have HSEQ0 := hide (all_seq 5 (by omega) B w2.heap.size [] V0 sqV0 (by simp))
  have SQL0 := hide sqV0.lt
  have ne0 : Hid (∀ g, SeqB B V0 g → g ≠ w4.heap.size) := hide fun g hg e => by
    have sqW := (FW.out w4 WB0.out).2.2
    have hg2 : SeqB B w4 g := by
      rcases hg with rfl | ⟨u, hu, hgu⟩
      · exact .inl rfl
      · obtain ⟨_, u', hu', _⟩ := sqW
        have c := blk_cell ((bV0.block B (blk_lt hu')).trans hu') 0 rfl
        rw [c] at hu
        cases hu
        exact .inr ⟨_, blk_cell hu' 0 rfl, hgu⟩
    have := (sqW.lt g hg2).2
    omega
  clear BV0 bV0 szV0 sqV0
  go_wp2_with fail
  refine (wpIn_wide (n := 6)).1 ?_
  refine wpIn_rangeFunc_ownF rfl (by omega) (gf := 43) (lb := #[.pointer (some ⟨B, 0, none⟩)]) rfl trivial (enters_of Try.func43 (by kernel_rfl) rfl) HSEQ0.out Kn.trans (kn_b (fun g hg => (SQL0.out g hg).2)) (Below.refl _ _) (fun _ => rfl)
    (fun _ W => Below V0.heap.size V0 W) (fun _ _ _ => False) (fun s A B row hs hg hr => hs.grown hg hs.size fun k e => (hr k e).1) (fun _ _ _ _ _ hs _ _ => hs) (Below.refl _ _) (fun x => absurd x.2 (Nat.not_lt_zero _)) ?hassign ?hbody ?hdone ?hstop
  case hassign => exact fun l x => absurd x.2 (Nat.not_lt_zero _)
  case hbody => exact fun l pre x => absurd x.2 (Nat.not_lt_zero _)
  case hstop =>
    rintro D c pre W _ _ h _
    exact h.elim
  case hdone =>
    rintro D0 xs W0 hD _ bI hK0
    have h8 := (bI.block w4.heap.size (blk_lt HBV0.out)).trans HBV0.out
    have bW0 : Below w4.heap.size w4 W0 := HbV0.out.trans (bI.mono (by have := HZ0.out; omega))
    have WB1 : Hid (Below w4.heap.size w4 W0) := hide (WB0.out.trans (bW0.mono (ZW.out _ WB0.out)))
    obtain ⟨⟨c4, cN⟩, fR, _⟩ := FW.out W0 WB1.out
    have c8 := blk_cell h8 0 rfl
    have DK0 := hide hK0
    have DL0 : Hid (w4.heap.size < D0) := hide (by have := HZ0.out; omega)
    have BR0 := hide bW0
    clear hK0 h8 HSEQ0 SQL0 ne0 hV0 hs0 cV0 fV0 bW0 fR
    go_wp2
    refine hide ?_
    refine rounds_cut fun R1 hR1 => ?_
    obtain ⟨V1, hV1, szV1, bV1, BV1⟩ := blk_step W0 #[.int .i64 0] 3
    have hs1 : V1.setCell ⟨W0.heap.size, 0, none⟩ (.int .i64 0) = V1 := set_same BV1 rfl
    have cV1 := blk_cell BV1 0 rfl
    have fV1 := blk_froz BV1 0
    have WV1 : Hid (Below w4.heap.size w4 V1) := hide (WB1.out.trans (bV1.mono (ZW.out _ WB1.out)))
    have zz1 := ZW.out _ WB1.out
    have HZ1 := hide szV1
    have HBV1 := hide BV1
    have HbV1 := hide bV1
    have sqV1 := (FW.out V1 WV1.out).2.2
    have HSEQ1 := hide (all_seq 5 (by omega) B w2.heap.size [] V1 sqV1 (by simp))
    have SQL1 := hide sqV1.lt
    have ne1 : Hid (∀ g, SeqB B V1 g → g ≠ W0.heap.size) := hide fun g hg e => by
      have sqW := (FW.out W0 WB1.out).2.2
      have hg2 : SeqB B W0 g := by
        rcases hg with rfl | ⟨u, hu, hgu⟩
        · exact .inl rfl
        · obtain ⟨_, u', hu', _⟩ := sqW
          have c := blk_cell ((bV1.block B (blk_lt hu')).trans hu') 0 rfl
          rw [c] at hu
          cases hu
          exact .inr ⟨_, blk_cell hu' 0 rfl, hgu⟩
      have := (sqW.lt g hg2).2
      omega
    clear BV1 bV1 szV1 sqV1
    go_wp2_with fail
    refine (wpIn_wide (n := 6)).1 ?_
    refine wpIn_rangeFunc_ownF rfl (by omega) (gf := 43) (lb := #[.pointer (some ⟨B, 0, none⟩)]) rfl trivial (enters_of Try.func43 (by kernel_rfl) rfl) HSEQ1.out Kn.trans (kn_b (fun g hg => (SQL1.out g hg).2)) (Below.refl _ _) (fun _ => rfl)
      (fun _ W => Below V1.heap.size V1 W) (fun _ _ _ => False) (fun s A B row hs hg hr => hs.grown hg hs.size fun k e => (hr k e).1) (fun _ _ _ _ _ hs _ _ => hs) (Below.refl _ _) (fun x => absurd x.2 (Nat.not_lt_zero _)) ?hassign ?hbody ?hdone ?hstop
    case hassign => exact fun l x => absurd x.2 (Nat.not_lt_zero _)
    case hbody => exact fun l pre x => absurd x.2 (Nat.not_lt_zero _)
    case hstop =>
      rintro D c pre W _ _ h _
      exact h.elim
    case hdone =>
      rintro D1 xs W1 hD _ bI hK1
      have h8 := (bI.block W0.heap.size (blk_lt HBV1.out)).trans HBV1.out
      have bW1 : Below W0.heap.size W0 W1 := HbV1.out.trans (bI.mono (by have := HZ1.out; omega))
      have WB2 : Hid (Below w4.heap.size w4 W1) := hide (WB1.out.trans (bW1.mono (ZW.out _ WB1.out)))
      obtain ⟨⟨c4, cN⟩, fR, _⟩ := FW.out W1 WB2.out
      have c8 := blk_cell h8 0 rfl
      have DK1 := hide hK1
      have DL1 : Hid (W0.heap.size < D1) := hide (by have := HZ1.out; omega)
      have BR1 := hide bW1
      clear hK1 h8 HSEQ1 SQL1 ne1 hV1 hs1 cV1 fV1 bW1 fR
      go_wp2
      refine hide ?_
      refine rounds_cut fun R2 hR2 => ?_
      obtain ⟨⟨c4, cN⟩, fR, _⟩ := FW.out W1 WB2.out
      have e9 := blk_cell fR 0 rfl
      have f9 := blk_froz fR 0
      have K1 := DK1.out
      have l1 := (Array.getElem?_eq_some_iff.1 K1).1
      have l0 := (Array.getElem?_eq_some_iff.1 DK0.out).1
      have K0 : W1.heap[D0]? = some (.deferred (some [])) := (BR1.out.block D0 l0).trans DK0.out
      have hne : D0 ≠ D1 := by have := DL1.out; omega
      have d0 := DL0.out
      have d1 := DL1.out
      have zw := ZW.out _ WB1.out
      have hs5 := HS5.out
      have B0 : Hid (Below w.heap.size w W1) := hide (b05'.out.trans (WB2.out.mono (by have := b05'.out.size; omega)))
      have HR9 := hide fR
      have HK0 := hide K0
      have HK1 := hide K1
      clear K0 K1 fR c4 cN
      go_wp2
      have t1 : (W1.setCell ⟨w.heap.size + 1, 0, none⟩ (.bool true)).heap[D1]? = some (.deferred (some [])) := (Below.heap_setCell W1 ⟨w.heap.size + 1, 0, none⟩ _ D1 (by show D1 ≠ w.heap.size + 1; omega)).trans HK1.out
      have t0 : ((W1.setCell ⟨w.heap.size + 1, 0, none⟩ (.bool true)).putObj D1 (.deferred none)).heap[D0]? = some (.deferred (some [])) := (World.putObj_heap_other hne).trans ((Below.heap_setCell W1 ⟨w.heap.size + 1, 0, none⟩ _ D0 (by show D0 ≠ w.heap.size + 1; omega)).trans HK0.out)
      refine ⟨by simp, .inl ⟨_, _, rfl, run_takeDeferred t1, ?_⟩⟩
      refine ⟨by simp, .inl ⟨_, _, rfl, run_takeDeferred t0, ?_⟩⟩
      have g1 := grown_setCell W1 ⟨w.heap.size + 1, 0, none⟩ (.bool true)
      have g2 := grownBy_putObj' (W1.setCell ⟨w.heap.size + 1, 0, none⟩ (.bool true)) D1 (.deferred none)
      have g3 := grownBy_putObj' ((W1.setCell ⟨w.heap.size + 1, 0, none⟩ (.bool true)).putObj D1 (.deferred none)) D0 (.deferred none)
      have c9 := set_cells HR9.out 0 (.bool true)
      have l9 := blk_lt HR9.out
      have q9 := (g2.block (w.heap.size + 1) (by have := g1.size; omega) (by simp; omega)).trans c9
      have p9 := (g3.block (w.heap.size + 1) (by have := g1.size; have := g2.size; omega) (by simp; omega)).trans q9
      have u9 := blk_cell p9 0 rfl
      refine ⟨.bool true, ?_, rfl, ?_⟩
      · simp [results, Try.results23, go_sem, u9]
      · have z9 := B0.out.size
        have s1' := g1.size
        have s2' := g2.size
        exact ((B0.out.grown g1 z9 fun k e => by simp at e; omega).grown g2 (by omega) fun k e => by simp at e; omega).grown g3 (by omega) fun k e => by simp at e; omega

set_option maxRecDepth 100000 in
set_option maxHeartbeats 16000000 in
theorem gone1_any (p : Nat) (F : Nat → Prop) (w : World) (st : Lm.Ls) (v : Value) (ns : List Lw) (stop : Int) (h : Lk false p F w st) (hok : Lm.Ok st) (hlast : st.last ≤ 9223372036854775807) (hr : RowL w v ns) (hm : ns.map Lw.l = st.fl) (h0 : 0 < ns.length) (hs : I64 stop) :
    Calls Try.prog 23 #[.pointer (some ⟨p, 0, none⟩), v, .int .i64 stop] w fun E w' => E = .returned (.bool true) ∧ Below w.heap.size w w' := by
  obtain ⟨w1, hw1, sz1, b1, B1⟩ := blk_step w #[v] 45
  obtain ⟨w2, hw2, sz2, b2, B2⟩ := blk_step w1 #[.bool false] 4
  rw [sz1] at B2 b2
  have b02 : Below w.heap.size w w2 := b1.trans (b2.mono (by omega))
  have AL := hide (all_any p F w2 st (h.below b02) hok hlast)
  have B1' := (b2.block w.heap.size (by omega)).trans B1
  obtain ⟨zs, hzs⟩ : ∃ zs, st.fl.map Lm.Lt.n = zs := ⟨_, rfl⟩
  have hnl : ns.length = zs.length := by rw [← hzs, List.length_map, ← hm, List.length_map]
  have hzl : zs.length ≤ 512 := by rw [← hzs, List.length_map]; exact hok.len
  have hza : ∀ (i : Nat) (r : Lw), ns[i]? = some r → zs[i]? = some r.n := fun i r hr => by
    rw [← hzs, List.getElem?_map, ← hm, List.getElem?_map, hr]
    rfl
  have hup : ∀ (i j : Nat) (x y : Int), i < j → zs[i]? = some x → zs[j]? = some y → x < y := fun i j x y hij hx hy => by
    rw [← hzs, List.getElem?_map, Option.map_eq_some_iff] at hx hy
    obtain ⟨a, ha, rfl⟩ := hx
    obtain ⟨c, hc, rfl⟩ := hy
    obtain ⟨a1, a2⟩ := List.getElem?_eq_some_iff.1 ha
    obtain ⟨c1, c2⟩ := List.getElem?_eq_some_iff.1 hc
    have := List.pairwise_iff_getElem.1 hok.up i j a1 c1 hij
    rwa [a2, c2] at this
  rw [hzs] at AL
  have HB1 := hide B1'
  have HB2 := hide B2
  have HZA := hide hza
  have HUP := hide hup
  have HNL := hide hnl
  have HR := hide hr
  replace sz2 : w2.heap.size = w.heap.size + 2 := by omega
  obtain ⟨va, vc, hv, _, _⟩ := hr.1.shape
  rw [hnl] at hv
  have HV := hide hv
  rw [hv] at hw1 ⊢
  clear h hok hr hm hv B1 B1' B2 hza hup b1 b2 hzs hnl
  refine (callsIn_wide (n := 6)).1 ?_
  refine callsIn_of_wp_marks Try.func23 rfl trivial ?_ rfl
  refine wpIn_wide.2 (calm_wp ?_)
  simp only [Try.ntmps23, List.size_toArray, List.length_cons, List.length_nil, Nat.reduceAdd, Nat.reduceSub, Array.replicate_succ, Array.replicate_zero, List.push_toArray, List.append_toArray, List.nil_append, List.cons_append]
  go_wp2_with fail
  refine AL.out.mono ?_
  rintro E w3 ⟨B, rfl, sq, b3⟩
  have hq := Try.eqnilF w3 (.func 43) #[] #[.pointer (some ⟨B, 0, none⟩)]
  have A3 := (b3.block w.heap.size (by omega)).trans HB1.out
  have R3 := (b3.block (w.heap.size + 1) (by omega)).trans HB2.out
  have s3 := b3.size
  obtain ⟨w4, hw4, hw4', sz4, b4, B4, e4⟩ := new_one w3 3 (.int .i64 0) (.int .i64 (zs.length : Int))
  have A4 := (b4.block w.heap.size (by omega)).trans A3
  have R4 := (b4.block (w.heap.size + 1) (by omega)).trans R3
  have a3 := blk_cell A3 0 rfl
  have a4 := blk_cell A4 0 rfl
  have f4 := blk_froz B4 0
  rw [HV.out] at a3 a4
  have b24 : Below w2.heap.size w2 w4 := b3.trans (b4.mono b3.size)
  have sq4 := sq.below b4
  have hLp : (0 : Int) < (zs.length : Int) := by have := HNL.out; omega
  have PA := hide (pickx_any stop zs.length w4 hLp (by omega) hs)
  obtain ⟨q0, q1⟩ := pk_lt stop zs.length hLp
  obtain ⟨N, hN⟩ : ∃ N : Nat, (N : Int) = 1 + pk stop zs.length := ⟨(1 + pk stop zs.length).toNat, by omega⟩
  have hN1 : 1 ≤ N ∧ N ≤ zs.length := by omega
  obtain ⟨w5, hw5⟩ : ∃ w5, w4.setCell ⟨w3.heap.size, 0, none⟩ (.int .i64 (1 + pk stop zs.length)) = w5 := ⟨_, rfl⟩
  have B5 : w5.heap[w3.heap.size]? = some (.cells #[.int .i64 (N : Int)] 3 (0, 0)) := by
    rw [← hw5, set_cells B4, hN]
    simp
  have g5 : w4.grownBy w5 (some w3.heap.size) := by rw [← hw5]; exact grown_setCell w4 ⟨w3.heap.size, 0, none⟩ _
  have b05 : Below w.heap.size w w5 := (b02.trans (b24.mono (by omega))).grown g5 (by omega) fun k hk => by simp at hk; omega
  have k5 : ∀ g, g < w4.heap.size → g ≠ w3.heap.size → w5.heap[g]? = w4.heap[g]? := fun g hg hn => g5.block g hg (by simpa using hn)
  have s5 : w3.heap.size < w5.heap.size := by have := g5.size; omega
  have hwr : IntKind.i64.wrap (1 + pk stop zs.length) = 1 + pk stop zs.length := wrap64s _ (by omega) (by omega)
  have FW : Hid (∀ W, Below w5.heap.size w5 W → (W.cell? ⟨w.heap.size, 0, none⟩ = some (.slice va zs.length vc) ∧ W.cell? ⟨w3.heap.size, 0, none⟩ = some (.int .i64 (N : Int))) ∧ W.heap[w.heap.size + 1]? = some (.cells #[.bool false] 4 (0, 0)) ∧ RowL W v ns ∧ Seq B w2.heap.size W zs) := hide fun W hW => by
    have x1 := (hW.block w.heap.size (by omega)).trans ((k5 _ (by omega) (by omega)).trans A4)
    rw [HV.out] at x1
    have x2 := (hW.block w3.heap.size (by omega)).trans B5
    have x3 := (hW.block (w.heap.size + 1) (by omega)).trans ((k5 _ (by omega) (by omega)).trans R4)
    have x5 : Seq B w2.heap.size w5 zs := sq4.agree fun g _ hg hB => k5 g hg fun e => by
      have := (sq4.lt g hB)
      rcases hB with rfl | ⟨u, hu, hgu⟩
      · obtain ⟨_, u, hu, _⟩ := sq
        have := blk_lt hu
        omega
      · obtain ⟨_, u', hu', ho'⟩ := sq
        have hB4 := (b4.block B (blk_lt hu')).trans hu'
        have c := blk_cell hB4 0 rfl
        rw [c] at hu
        cases hu
        have := (ho'.block g hgu).2
        omega
    exact ⟨⟨blk_cell x1 0 rfl, blk_cell x2 0 rfl⟩, x3, HR.out.below (b05.trans (hW.mono (by omega))), x5.below hW⟩
  have hN1' := hN1
  have HHN := hide hN
  have HS5 := hide s5
  have b05' := hide b05
  clear B4 A3 A4 R3 R4 B5 sq sq4 k5 g5 b24 sz4 hN
  go_wp2_with fail
  refine PA.out.mono ?_
  rintro E wv ⟨rfl, rfl⟩
  go_wp2
  refine wp_loop_rounds 3 ?_
  have WB0 : Hid (Below w5.heap.size w5 w5) := hide (Below.refl _ _)
  have ZW : Hid (∀ W, Below w5.heap.size w5 W → w5.heap.size ≤ W.heap.size) := hide fun W hb => hb.size
  refine rounds_cut fun R0 hR0 => ?_
  obtain ⟨V0, hV0, szV0, bV0, BV0⟩ := blk_step w5 #[.int .i64 0] 3
  have hs0 : V0.setCell ⟨w5.heap.size, 0, none⟩ (.int .i64 0) = V0 := set_same BV0 rfl
  have cV0 := blk_cell BV0 0 rfl
  have fV0 := blk_froz BV0 0
  have WV0 : Hid (Below w5.heap.size w5 V0) := hide (WB0.out.trans (bV0.mono (ZW.out _ WB0.out)))
  have zz0 := ZW.out _ WB0.out
  have HZ0 := hide szV0
  have HBV0 := hide BV0
  have HbV0 := hide bV0
  have sqV0 := (FW.out V0 WV0.out).2.2.2
  have HSEQ0 := hide (all_seq 5 (by omega) B w2.heap.size zs V0 sqV0 (by omega))
  have SQL0 := hide sqV0.lt
  have ne0 : Hid (∀ g, SeqB B V0 g → g ≠ w5.heap.size) := hide fun g hg e => by
    have sqW := (FW.out w5 WB0.out).2.2.2
    have hg2 : SeqB B w5 g := by
      rcases hg with rfl | ⟨u, hu, hgu⟩
      · exact .inl rfl
      · obtain ⟨_, u', hu', _⟩ := sqW
        have c := blk_cell ((bV0.block B (blk_lt hu')).trans hu') 0 rfl
        rw [c] at hu
        cases hu
        exact .inr ⟨_, blk_cell hu' 0 rfl, hgu⟩
    have := (sqW.lt g hg2).2
    omega
  clear BV0 bV0 szV0 sqV0
  go_wp2_with fail
  refine (wpIn_wide (n := 6)).1 ?_
  apply wpIn_rangeFunc_ownF rfl (by omega) (gf := 43) (lb := #[.pointer (some ⟨B, 0, none⟩)]) rfl trivial (enters_of Try.func43 (by kernel_rfl) rfl) (encs := fun x : Nx zs.length => #[nxv zs x.1]) (Kp := Kn (SeqB B V0)) (S := fun xs => xs = upn zs.length zs.length) (Sp := fun pre => ∃ k, k ≤ zs.length ∧ pre = upn zs.length k) (N := zs.length) (w0 := V0) HSEQ0.out Kn.trans (kn_b (fun g hg => (SQL0.out g hg).2)) (Below.refl _ _) (fun _ => rfl)
    (fun pre W => pre = upn zs.length pre.length ∧ pre.length < N ∧ W.heap[w5.heap.size]? = some (.cells #[.int .i64 (pre.length : Int)] 3 (0, 0)) ∧ Out (fun g => g = w5.heap.size) V0 W)
    (fun c pre W => (c = .exit 2 ∧ W.heap[w5.heap.size]? = some (.cells #[.int .i64 (N : Int)] 3 (0, 0)) ∧ Out (fun g => g = w5.heap.size) V0 W) ∨ ∀ k, k ≤ zs.length → ¬ pre = upn zs.length k)
    (fun s A B row hs hg hr => ⟨hs.1, hs.2.1, (hg.block _ (blk_lt hs.2.2.1) fun e => by have := (hr _ e.symm).1; have := HZ0.out; omega).trans hs.2.2.1, hs.2.2.2.trans (Out.of_grown (F := fun g => row = some g) hg fun g h => h) fun g h => .inr (hr g h).1⟩)
    (fun c s A B row hs hg hr => by
      rcases hs with ⟨h1, h2, h3⟩ | h1
      · exact .inl ⟨h1, (hg.block _ (blk_lt h2) fun e => by have := (hr _ e.symm).1; have := HZ0.out; omega).trans h2, h3.trans (Out.of_grown (F := fun g => row = some g) hg fun g h => h) fun g h => .inr (hr g h).1⟩
      · exact .inr h1)
    ⟨rfl, by simp; omega, HBV0.out, Out.refl _ _⟩
  case hassign =>
    intro l0 x W K hK
    gi_wp2
    exact hK
  case hbody =>
    rintro l0 pre x W ⟨hpre, hpN, h8, hO⟩ hlt0
    obtain ⟨WX, hWX⟩ : ∃ WX : Prop, WX = True := ⟨_, rfl⟩
    have bVW : Below w5.heap.size w5 W := WV0.out.trans (hO.below (fun g hg => by omega) (by have := HZ0.out; omega))
    obtain ⟨⟨c4, cN⟩, fR, rowW, _⟩ := FW.out W bVW
    obtain ⟨j, hj⟩ : ∃ j, pre.length = j := ⟨_, rfl⟩
    rw [hj] at hpre h8 hlt0 hpN
    have hnl := HNL.out
    obtain ⟨bf, of, cq, hvq, _, _, _, hcl⟩ := rowW.full (by omega)
    rw [HV.out, hnl] at hvq
    simp only [Value.slice.injEq, true_and] at hvq
    obtain ⟨rfl, rfl⟩ := hvq
    obtain ⟨r, hr⟩ : ∃ r, ns[j]? = some r := ⟨ns[j], by rw [List.getElem?_eq_getElem]⟩
    obtain ⟨r0, _, _⟩ := hcl j r hr
    have c8 := blk_cell h8 0 rfl
    have f8 := blk_froz h8 0
    have cR := blk_cell fR 0 rfl
    have gR := blk_froz fR 0
    have hzr := HZA.out j r hr
    obtain ⟨z, hz⟩ : ∃ z, zs[x.1]?.getD 0 = z := ⟨_, rfl⟩
    have hzx : zs[x.1]? = some z := by rw [List.getElem?_eq_getElem x.2] at hz ⊢; simpa using hz
    have hj0 : (0 : Int) ≤ (j : Int) := by omega
    have hjl : (j : Int) < zs.length := by omega
    have hjl2 : ¬ (zs.length : Int) ≤ (j : Int) := by omega
    have hwr1 : IntKind.i64.wrap ((j : Int) + 1) = (j : Int) + 1 := wrap64s _ (by omega) (by omega)
    dsimp only [nxv]
    rw [hz]
    by_cases hx : x.1 = j
    · have hzz : z = r.n := by rw [hx, hzr] at hzx; simpa using hzx.symm
      subst hzz
      have hxe : pre ++ [x] = upn zs.length (j + 1) := by
        rw [upn_next _ j (by omega), hpre]
        congr 2
        exact Subtype.ext hx
      have hlen : (pre ++ [x]).length = j + 1 := by rw [hxe, upn_len _ _ (by omega)]
      have oW : Out (fun g => g = w5.heap.size) V0 (W.setCell ⟨w5.heap.size, 0, none⟩ (.int .i64 ((j : Int) + 1))) := hO.trans (Out.of_grown (F := fun g => g = w5.heap.size) (grown_setCell W ⟨w5.heap.size, 0, none⟩ _) fun g hg => by simp at hg; exact hg.symm) fun g hg => .inl hg
      have hW8 : (W.setCell ⟨w5.heap.size, 0, none⟩ (.int .i64 ((j : Int) + 1))).heap[w5.heap.size]? = some (.cells #[.int .i64 ((j : Int) + 1)] 3 (0, 0)) := by rw [set_cells h8]; simp
      have c9 := blk_cell hW8 0 rfl
      have cN9 : (W.setCell ⟨w5.heap.size, 0, none⟩ (.int .i64 ((j : Int) + 1))).cell? ⟨w3.heap.size, 0, none⟩ = some (.int .i64 (N : Int)) := (cell_of_blk (Below.heap_setCell W ⟨w5.heap.size, 0, none⟩ _ w3.heap.size (by show w3.heap.size ≠ w5.heap.size; have := HS5.out; omega)) 0).trans cN
      by_cases hend : j + 1 = N
      · have hE1 : Hid ((W.setCell ⟨w5.heap.size, 0, none⟩ (.int .i64 ((j : Int) + 1))).heap[w5.heap.size]? = some (.cells #[.int .i64 (N : Int)] 3 (0, 0))) := hide (by rw [hW8, ← hend]; simp)
        have hE2 := hide oW
        have hjN : ((j : Int) + 1 == (N : Int)) = true := by simp; omega
        clear hcl hr h8 hO fR rowW hzr hzx hz hxe hlen oW hW8 hpre bVW hend
        gi_wp2
        exact ⟨KeepsOthers.setCell _ _ _, .inl ⟨rfl, hE1.out, hE2.out⟩⟩
      · have hKI : Hid (Kn (SeqB B V0) W (W.setCell ⟨w5.heap.size, 0, none⟩ (.int .i64 ((j : Int) + 1))) ∧ (pre ++ [x] = upn zs.length (pre ++ [x]).length ∧ (pre ++ [x]).length < N ∧ (W.setCell ⟨w5.heap.size, 0, none⟩ (.int .i64 ((j : Int) + 1))).heap[w5.heap.size]? = some (.cells #[.int .i64 (((pre ++ [x]).length : Nat) : Int)] 3 (0, 0)) ∧ Out (fun g => g = w5.heap.size) V0 (W.setCell ⟨w5.heap.size, 0, none⟩ (.int .i64 ((j : Int) + 1))))) := hide ⟨fun g hg => Below.heap_setCell _ _ _ _ (ne0.out g hg), by rw [hlen]; exact hxe, by rw [hlen]; omega, by rw [hW8, hlen]; simp, oW⟩
        have hjN : ((j : Int) + 1 == (N : Int)) = false := by simp; omega
        have hjN2 : ¬ (j : Int) + 1 = (N : Int) := by omega
        clear hcl hr h8 hO fR rowW hzr hzx hz hxe hlen oW hW8 hpre bVW hend
        gi_wp2
        exact ⟨KeepsOthers.setCell _ _ _, hKI.out⟩
    · have hzz : (z == r.n) = false := by
        simp only [beq_eq_false_iff_ne, ne_eq]
        intro e
        rcases Nat.lt_or_gt_of_ne hx with h1 | h1
        · have := HUP.out _ _ _ _ h1 hzx hzr; omega
        · have := HUP.out _ _ _ _ h1 hzr hzx; omega
      have hbad : ∀ k, k ≤ zs.length → ¬ pre ++ [x] = upn zs.length k := by
        intro k hk1 hk2
        have hl1 := congrArg List.length hk2
        rw [List.length_append, upn_len _ k hk1, hj] at hl1
        simp only [List.length_singleton] at hl1
        rw [← hl1, upn_next _ j (by omega), hpre] at hk2
        have := List.append_cancel_left hk2
        simp at this
        exact hx (by rw [this])
      have hzn : ¬ z = r.n := by simpa using hzz
      clear hcl hr h8 hO fR rowW hzr hzx hz hpre bVW
      gi_wp2
      exact ⟨KeepsOthers.setCell _ _ _, .inr hbad⟩
  case hdone =>
    rintro D xs W hD rfl ⟨_, hpN, _⟩ hK
    rw [upn_len _ _ (Nat.le_refl _)] at hpN
    omega
  case hstop =>
    rintro D0 c pre W0 hD ⟨k0, hk1, hk2⟩ hIx hK0
    obtain ⟨rfl, h8, hO⟩ := hIx.resolve_right fun h1 => h1 k0 hk1 hk2
    refine wpIn_wide.2 ?_
    have bW0 : Below w5.heap.size w5 W0 := HbV0.out.trans (hO.below (fun g hg => by omega) (by have := HZ0.out; omega))
    have WB1 : Hid (Below w5.heap.size w5 W0) := hide (WB0.out.trans (bW0.mono (ZW.out _ WB0.out)))
    obtain ⟨⟨c4, cN⟩, fR, _⟩ := FW.out W0 WB1.out
    have c8 := blk_cell h8 0 rfl
    have DK0 := hide hK0
    have DL0 : Hid (w5.heap.size < D0) := hide (by have := HZ0.out; omega)
    have BR0 := hide bW0
    clear hK0 h8 HSEQ0 SQL0 ne0 hV0 hs0 cV0 fV0 bW0 fR
    go_wp2
    refine hide ?_
    refine rounds_cut fun R1 hR1 => ?_
    obtain ⟨V1, hV1, szV1, bV1, BV1⟩ := blk_step W0 #[.int .i64 0] 3
    have hs1 : V1.setCell ⟨W0.heap.size, 0, none⟩ (.int .i64 0) = V1 := set_same BV1 rfl
    have cV1 := blk_cell BV1 0 rfl
    have fV1 := blk_froz BV1 0
    have WV1 : Hid (Below w5.heap.size w5 V1) := hide (WB1.out.trans (bV1.mono (ZW.out _ WB1.out)))
    have zz1 := ZW.out _ WB1.out
    have HZ1 := hide szV1
    have HBV1 := hide BV1
    have HbV1 := hide bV1
    have sqV1 := (FW.out V1 WV1.out).2.2.2
    have HSEQ1 := hide (all_seq 5 (by omega) B w2.heap.size zs V1 sqV1 (by omega))
    have SQL1 := hide sqV1.lt
    have ne1 : Hid (∀ g, SeqB B V1 g → g ≠ W0.heap.size) := hide fun g hg e => by
      have sqW := (FW.out W0 WB1.out).2.2.2
      have hg2 : SeqB B W0 g := by
        rcases hg with rfl | ⟨u, hu, hgu⟩
        · exact .inl rfl
        · obtain ⟨_, u', hu', _⟩ := sqW
          have c := blk_cell ((bV1.block B (blk_lt hu')).trans hu') 0 rfl
          rw [c] at hu
          cases hu
          exact .inr ⟨_, blk_cell hu' 0 rfl, hgu⟩
      have := (sqW.lt g hg2).2
      omega
    clear BV1 bV1 szV1 sqV1
    go_wp2_with fail
    refine (wpIn_wide (n := 6)).1 ?_
    apply wpIn_rangeFunc_ownF rfl (by omega) (gf := 43) (lb := #[.pointer (some ⟨B, 0, none⟩)]) rfl trivial (enters_of Try.func43 (by kernel_rfl) rfl) (encs := fun x : Nx zs.length => #[nxv zs x.1]) (Kp := Kn (SeqB B V1)) (S := fun xs => xs = upn zs.length zs.length) (Sp := fun pre => ∃ k, k ≤ zs.length ∧ pre = upn zs.length k) (N := zs.length) (w0 := V1) HSEQ1.out Kn.trans (kn_b (fun g hg => (SQL1.out g hg).2)) (Below.refl _ _) (fun _ => rfl)
      (fun pre W => pre = upn zs.length pre.length ∧ pre.length < N ∧ W.heap[W0.heap.size]? = some (.cells #[.int .i64 (pre.length : Int)] 3 (0, 0)) ∧ Out (fun g => g = W0.heap.size) V1 W)
      (fun c pre W => (c = .exit 2 ∧ W.heap[W0.heap.size]? = some (.cells #[.int .i64 (N : Int)] 3 (0, 0)) ∧ Out (fun g => g = W0.heap.size) V1 W) ∨ ∀ k, k ≤ zs.length → ¬ pre = upn zs.length k)
      (fun s A B row hs hg hr => ⟨hs.1, hs.2.1, (hg.block _ (blk_lt hs.2.2.1) fun e => by have := (hr _ e.symm).1; have := HZ1.out; omega).trans hs.2.2.1, hs.2.2.2.trans (Out.of_grown (F := fun g => row = some g) hg fun g h => h) fun g h => .inr (hr g h).1⟩)
      (fun c s A B row hs hg hr => by
        rcases hs with ⟨h1, h2, h3⟩ | h1
        · exact .inl ⟨h1, (hg.block _ (blk_lt h2) fun e => by have := (hr _ e.symm).1; have := HZ1.out; omega).trans h2, h3.trans (Out.of_grown (F := fun g => row = some g) hg fun g h => h) fun g h => .inr (hr g h).1⟩
        · exact .inr h1)
      ⟨rfl, by simp; omega, HBV1.out, Out.refl _ _⟩
    case hassign =>
      intro l0 x W K hK
      gi_wp2
      exact hK
    case hbody =>
      rintro l0 pre x W ⟨hpre, hpN, h8, hO⟩ hlt0
      obtain ⟨WX, hWX⟩ : ∃ WX : Prop, WX = True := ⟨_, rfl⟩
      have bVW : Below w5.heap.size w5 W := WV1.out.trans (hO.below (fun g hg => by omega) (by have := HZ1.out; omega))
      obtain ⟨⟨c4, cN⟩, fR, rowW, _⟩ := FW.out W bVW
      obtain ⟨j, hj⟩ : ∃ j, pre.length = j := ⟨_, rfl⟩
      rw [hj] at hpre h8 hlt0 hpN
      have hnl := HNL.out
      obtain ⟨bf, of, cq, hvq, _, _, _, hcl⟩ := rowW.full (by omega)
      rw [HV.out, hnl] at hvq
      simp only [Value.slice.injEq, true_and] at hvq
      obtain ⟨rfl, rfl⟩ := hvq
      obtain ⟨r, hr⟩ : ∃ r, ns[j]? = some r := ⟨ns[j], by rw [List.getElem?_eq_getElem]⟩
      obtain ⟨r0, _, _⟩ := hcl j r hr
      have c8 := blk_cell h8 0 rfl
      have f8 := blk_froz h8 0
      have cR := blk_cell fR 0 rfl
      have gR := blk_froz fR 0
      have hzr := HZA.out j r hr
      obtain ⟨z, hz⟩ : ∃ z, zs[x.1]?.getD 0 = z := ⟨_, rfl⟩
      have hzx : zs[x.1]? = some z := by rw [List.getElem?_eq_getElem x.2] at hz ⊢; simpa using hz
      have hj0 : (0 : Int) ≤ (j : Int) := by omega
      have hjl : (j : Int) < zs.length := by omega
      have hjl2 : ¬ (zs.length : Int) ≤ (j : Int) := by omega
      have hwr1 : IntKind.i64.wrap ((j : Int) + 1) = (j : Int) + 1 := wrap64s _ (by omega) (by omega)
      dsimp only [nxv]
      rw [hz]
      by_cases hx : x.1 = j
      · have hzz : z = r.n := by rw [hx, hzr] at hzx; simpa using hzx.symm
        subst hzz
        have hxe : pre ++ [x] = upn zs.length (j + 1) := by
          rw [upn_next _ j (by omega), hpre]
          congr 2
          exact Subtype.ext hx
        have hlen : (pre ++ [x]).length = j + 1 := by rw [hxe, upn_len _ _ (by omega)]
        have oW : Out (fun g => g = W0.heap.size) V1 (W.setCell ⟨W0.heap.size, 0, none⟩ (.int .i64 ((j : Int) + 1))) := hO.trans (Out.of_grown (F := fun g => g = W0.heap.size) (grown_setCell W ⟨W0.heap.size, 0, none⟩ _) fun g hg => by simp at hg; exact hg.symm) fun g hg => .inl hg
        have hW8 : (W.setCell ⟨W0.heap.size, 0, none⟩ (.int .i64 ((j : Int) + 1))).heap[W0.heap.size]? = some (.cells #[.int .i64 ((j : Int) + 1)] 3 (0, 0)) := by rw [set_cells h8]; simp
        have c9 := blk_cell hW8 0 rfl
        have cN9 : (W.setCell ⟨W0.heap.size, 0, none⟩ (.int .i64 ((j : Int) + 1))).cell? ⟨w3.heap.size, 0, none⟩ = some (.int .i64 (N : Int)) := (cell_of_blk (Below.heap_setCell W ⟨W0.heap.size, 0, none⟩ _ w3.heap.size (by show w3.heap.size ≠ W0.heap.size; have := HS5.out; omega)) 0).trans cN
        by_cases hend : j + 1 = N
        · have hE1 : Hid ((W.setCell ⟨W0.heap.size, 0, none⟩ (.int .i64 ((j : Int) + 1))).heap[W0.heap.size]? = some (.cells #[.int .i64 (N : Int)] 3 (0, 0))) := hide (by rw [hW8, ← hend]; simp)
          have hE2 := hide oW
          have hjN : ((j : Int) + 1 == (N : Int)) = true := by simp; omega
          clear hcl hr h8 hO fR rowW hzr hzx hz hxe hlen oW hW8 hpre bVW hend
          gi_wp2
          exact ⟨KeepsOthers.setCell _ _ _, .inl ⟨rfl, hE1.out, hE2.out⟩⟩
        · have hKI : Hid (Kn (SeqB B V1) W (W.setCell ⟨W0.heap.size, 0, none⟩ (.int .i64 ((j : Int) + 1))) ∧ (pre ++ [x] = upn zs.length (pre ++ [x]).length ∧ (pre ++ [x]).length < N ∧ (W.setCell ⟨W0.heap.size, 0, none⟩ (.int .i64 ((j : Int) + 1))).heap[W0.heap.size]? = some (.cells #[.int .i64 (((pre ++ [x]).length : Nat) : Int)] 3 (0, 0)) ∧ Out (fun g => g = W0.heap.size) V1 (W.setCell ⟨W0.heap.size, 0, none⟩ (.int .i64 ((j : Int) + 1))))) := hide ⟨fun g hg => Below.heap_setCell _ _ _ _ (ne1.out g hg), by rw [hlen]; exact hxe, by rw [hlen]; omega, by rw [hW8, hlen]; simp, oW⟩
          have hjN : ((j : Int) + 1 == (N : Int)) = false := by simp; omega
          have hjN2 : ¬ (j : Int) + 1 = (N : Int) := by omega
          clear hcl hr h8 hO fR rowW hzr hzx hz hxe hlen oW hW8 hpre bVW hend
          gi_wp2
          exact ⟨KeepsOthers.setCell _ _ _, hKI.out⟩
      · have hzz : (z == r.n) = false := by
          simp only [beq_eq_false_iff_ne, ne_eq]
          intro e
          rcases Nat.lt_or_gt_of_ne hx with h1 | h1
          · have := HUP.out _ _ _ _ h1 hzx hzr; omega
          · have := HUP.out _ _ _ _ h1 hzr hzx; omega
        have hbad : ∀ k, k ≤ zs.length → ¬ pre ++ [x] = upn zs.length k := by
          intro k hk1 hk2
          have hl1 := congrArg List.length hk2
          rw [List.length_append, upn_len _ k hk1, hj] at hl1
          simp only [List.length_singleton] at hl1
          rw [← hl1, upn_next _ j (by omega), hpre] at hk2
          have := List.append_cancel_left hk2
          simp at this
          exact hx (by rw [this])
        have hzn : ¬ z = r.n := by simpa using hzz
        clear hcl hr h8 hO fR rowW hzr hzx hz hpre bVW
        gi_wp2
        exact ⟨KeepsOthers.setCell _ _ _, .inr hbad⟩
    case hdone =>
      rintro D xs W hD rfl ⟨_, hpN, _⟩ hK
      rw [upn_len _ _ (Nat.le_refl _)] at hpN
      omega
    case hstop =>
      rintro D1 c pre W1 hD ⟨k0, hk1, hk2⟩ hIx hK1
      obtain ⟨rfl, h8, hO⟩ := hIx.resolve_right fun h1 => h1 k0 hk1 hk2
      refine wpIn_wide.2 ?_
      have bW1 : Below W0.heap.size W0 W1 := HbV1.out.trans (hO.below (fun g hg => by omega) (by have := HZ1.out; omega))
      have WB2 : Hid (Below w5.heap.size w5 W1) := hide (WB1.out.trans (bW1.mono (ZW.out _ WB1.out)))
      obtain ⟨⟨c4, cN⟩, fR, _⟩ := FW.out W1 WB2.out
      have c8 := blk_cell h8 0 rfl
      have DK1 := hide hK1
      have DL1 : Hid (W0.heap.size < D1) := hide (by have := HZ1.out; omega)
      have BR1 := hide bW1
      clear hK1 h8 HSEQ1 SQL1 ne1 hV1 hs1 cV1 fV1 bW1 fR
      go_wp2
      refine hide ?_
      refine rounds_cut fun R2 hR2 => ?_
      obtain ⟨⟨c4, cN⟩, fR, _⟩ := FW.out W1 WB2.out
      have e9 := blk_cell fR 0 rfl
      have f9 := blk_froz fR 0
      have K1 := DK1.out
      have l1 := (Array.getElem?_eq_some_iff.1 K1).1
      have l0 := (Array.getElem?_eq_some_iff.1 DK0.out).1
      have K0 : W1.heap[D0]? = some (.deferred (some [])) := (BR1.out.block D0 l0).trans DK0.out
      have hne : D0 ≠ D1 := by have := DL1.out; omega
      have d0 := DL0.out
      have d1 := DL1.out
      have zw := ZW.out _ WB1.out
      have hs5 := HS5.out
      have B0 : Hid (Below w.heap.size w W1) := hide (b05'.out.trans (WB2.out.mono (by have := b05'.out.size; omega)))
      have HR9 := hide fR
      have HK0 := hide K0
      have HK1 := hide K1
      clear K0 K1 fR c4 cN
      go_wp2
      have t1 : (W1.setCell ⟨w.heap.size + 1, 0, none⟩ (.bool true)).heap[D1]? = some (.deferred (some [])) := (Below.heap_setCell W1 ⟨w.heap.size + 1, 0, none⟩ _ D1 (by show D1 ≠ w.heap.size + 1; omega)).trans HK1.out
      have t0 : ((W1.setCell ⟨w.heap.size + 1, 0, none⟩ (.bool true)).putObj D1 (.deferred none)).heap[D0]? = some (.deferred (some [])) := (World.putObj_heap_other hne).trans ((Below.heap_setCell W1 ⟨w.heap.size + 1, 0, none⟩ _ D0 (by show D0 ≠ w.heap.size + 1; omega)).trans HK0.out)
      refine ⟨by simp, .inl ⟨_, _, rfl, run_takeDeferred t1, ?_⟩⟩
      refine ⟨by simp, .inl ⟨_, _, rfl, run_takeDeferred t0, ?_⟩⟩
      have g1 := grown_setCell W1 ⟨w.heap.size + 1, 0, none⟩ (.bool true)
      have g2 := grownBy_putObj' (W1.setCell ⟨w.heap.size + 1, 0, none⟩ (.bool true)) D1 (.deferred none)
      have g3 := grownBy_putObj' ((W1.setCell ⟨w.heap.size + 1, 0, none⟩ (.bool true)).putObj D1 (.deferred none)) D0 (.deferred none)
      have c9 := set_cells HR9.out 0 (.bool true)
      have l9 := blk_lt HR9.out
      have q9 := (g2.block (w.heap.size + 1) (by have := g1.size; omega) (by simp; omega)).trans c9
      have p9 := (g3.block (w.heap.size + 1) (by have := g1.size; have := g2.size; omega) (by simp; omega)).trans q9
      have u9 := blk_cell p9 0 rfl
      refine ⟨.bool true, ?_, rfl, ?_⟩
      · simp [results, Try.results23, go_sem, u9]
      · have z9 := B0.out.size
        have s1' := g1.size
        have s2' := g2.size
        exact ((B0.out.grown g1 z9 fun k e => by simp at e; omega).grown g2 (by omega) fun k e => by simp at e; omega).grown g3 (by omega) fun k e => by simp at e; omega

end Go.Proofs.Ytadfbmglbaebiaa
