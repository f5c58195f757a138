/- The walk of TableOrder. -/
import Derived.Test.YtlfhpbiapnjghaaTv
import Derived.Test.YtlfhpbiapnjghaaBe
import Derived.BigQuiet
namespace Go.Proofs.Ytlfhpbiapnjghaa
open Go.RowKit
open Bm (Ov)
set_option linter.unusedVariables false

theorem met_mem {l : List Ov} {o : Ov} (h : o ∈ l) : Tm.met l o.k = true := Tm.met_iff.2 ⟨o, h, rfl⟩

theorem met_snoc {l : List Ov} {j : Nat} {o : Ov} (key : ByteArray) (h : l[j]? = some o) : Tm.met (l.take (j + 1)) key = (Tm.met (l.take j) key || decide (o.k = key)) := by
  obtain ⟨h1, rfl⟩ := List.getElem?_eq_some_iff.1 h
  unfold Tm.met
  rw [List.take_succ_eq_append_getElem h1, List.any_append, List.any_cons, List.any_nil, Bool.or_false]

theorem up_at {t : List Ov} (h : Tm.Up t) {j : Nat} {x o : Ov} (hx : t[j]? = some x) (ho : t[j + 1]? = some o) : Tm.lt x.k o.k = true := by
  obtain ⟨h1, rfl⟩ := List.getElem?_eq_some_iff.1 hx
  obtain ⟨h2, rfl⟩ := List.getElem?_eq_some_iff.1 ho
  exact List.pairwise_iff_getElem.1 h j (j + 1) h1 h2 (by omega)

/-- A row of the call's own that is not bare. -/
theorem OwnO.slot {e base : Nat} {w : World} {v : Value} {l : List Ov} (h : OwnO e base w v l) (h0 : 0 < l.length) : ∃ g cap, v = .slice (some ⟨g, 0, none⟩) l.length cap := by
  rcases h.2 with ⟨_, hz⟩ | ⟨g, cap, cur, hv, _⟩
  · omega
  · exact ⟨g, cap, hv⟩

set_option maxRecDepth 100000 in
set_option maxHeartbeats 8000000 in
theorem tableOrder_walk (v : Value) (r : List Rw) (key : ByteArray) (w : World) (h : IsLL w v r) (hf : FitL r) (hr : r.length * 24 ≤ 140737488351232) (hks : key.size ≤ 140737488351232) :
    Calls Try.prog 7 #[v, .string key] w fun E w' => E = .returned (.bool true) ∧ Below w.heap.size w w' := by
  have HL := hide h
  obtain ⟨ao, cap, hv, hcap, hcm⟩ := h.1.shape
  subst hv
  have HF := hide hf
  clear h hf
  go_enter Try.func7, Try.ntmps7
  go_wp2_with fail
  refine (lives_any w).mono ?_
  rintro E w0 ⟨rfl, b0⟩
  have X0 := hide (tsmall_any _ r w0 (HL.out.below b0) (by omega))
  go_wp2_with fail
  refine X0.out.mono ?_
  rintro E wx ⟨hor, rfl⟩
  rcases hor with rfl | ⟨rfl, HS⟩
  · clear X0
    go_wp2
    go_ret
    exact ⟨rfl, b0⟩
  clear X0
  go_wp2_with fail
  refine (tnew_any w0).mono ?_
  rintro E w1 ⟨rfl, A1, b1⟩
  have HB1 := hide (b0.trans (b1.mono b0.size))
  obtain ⟨p, hp⟩ : ∃ p, w0.heap.size + 1 = p := ⟨_, rfl⟩
  obtain ⟨b, hb⟩ : ∃ b, w0.heap.size = b := ⟨_, rfl⟩
  have ORD : Hid (w.heap.size ≤ b ∧ w.heap.size ≤ p) := hide (by have := b0.size; omega)
  rw [hp, hb] at A1
  rw [hp]
  have HA1 := hide A1
  clear A1 b0 b1 hp hb
  obtain ⟨n, hnn⟩ : ∃ n, r.length = n := ⟨_, rfl⟩
  rw [hnn] at hcap hr ⊢
  have HN := hide hnn
  have HFULL := hide fun (h0 : 0 < r.length) => HL.out.full h0
  rw [hnn] at HFULL
  clear hnn
  go_wp2
  go_loopw [7, 6] (fun i tv wr => ∃ (k : Nat) (T : List Ov) (c : Bool), k ≤ n ∧ i = .int .i64 k ∧ tv = .bool c ∧ Hid (Tb p b wr T) ∧ Hid (Tm.met T key = c) ∧ Hid (FitO T) ∧ T.length ≤ k * 40 ∧ Hid (Below w.heap.size w wr)) (fun i _ _ => n - (intOf i).toNat)
  case atStart => exact ⟨0, [], false, by omega, rfl, rfl, HA1, hide rfl, hide fit_nil, by simp, HB1⟩
  case round =>
    obtain ⟨k, T, c, hk, rfl, rfl, HT, HC, HFT, hTl, HBr⟩ := hrel
    by_cases hlt : k < n
    · obtain ⟨a, ha⟩ : ∃ a, r[k]? = some a := ⟨r[k]'(by have := HN.out; omega), by rw [List.getElem?_eq_getElem]⟩
      obtain ⟨b1, o1, cq, hvx, _, _, hB, hcell⟩ := HFULL.out (by have := HN.out; omega)
      simp only [Value.slice.injEq, true_and] at hvx
      obtain ⟨rfl, rfl⟩ := hvx
      have hc0 := hcell k a ha
      have hma := List.mem_of_getElem? ha
      have isa := HL.out.2 a hma
      obtain ⟨av, ac, hav, _, _⟩ := isa.shape
      have hn40 := HS.out.1 a hma
      have hn30 : n ≤ 30 := by rw [← HN.out]; exact HS.out.2
      have HCE : Hid (∀ W, Below w.heap.size w W → W.cell? ⟨b1, o1 + k, none⟩ = some (.slice av a.l.length ac) ∧ IsO W (.slice av a.l.length ac) a.l) := hide fun W hb => ⟨by rw [← hav]; exact (hb.cell (p := ⟨b1, o1 + k, none⟩) hB).trans hc0, by rw [← hav]; exact isa.below hb⟩
      have hFa := HF.out a hma
      have X1 := hide (tapply_any p b wr T _ a.l HT.out (HCE.out wr HBr.out).2 hFa (by omega))
      have e1 := (HCE.out wr HBr.out).1
      have hlt' : (k : Int) < n := by omega
      have hk0 : (0 : Int) ≤ (k : Int) := by omega
      have HFA := hide hFa
      have HUT := hide HT.out.up
      clear hcell hc0 isa hav ha hFa
      go_wp2_with fail
      refine X1.out.mono ?_
      rintro E wa ⟨rfl, Ta, Oa⟩
      have HBa : Hid (Below w.heap.size w wa) := hide (HBr.out.trans (Oa.below (fun g hg => by have := ORD.out; omega) HBr.out.size))
      rcases Bm.first_two a.l with h0 | h2
      · rw [h0]
        rw [aft_ok (Bm.first_zero h0)] at Ta
        have HMA : Hid (∀ o ∈ a.l, Tm.met (Tm.app T a.l) o.k = true) := hide fun o ho => by rw [Tm.met_app a.l o.k HUT.out, met_mem ho, Bool.or_true]
        have HCK := hide (Tm.met_app (t := T) a.l key HUT.out)
        have HFT2 := hide (fit_app HUT.out HFT.out HFA.out)
        have hTl2 := Tm.app_len a.l T
        obtain ⟨T2, hT2⟩ : ∃ T2, Tm.app T a.l = T2 := ⟨_, rfl⟩
        rw [hT2] at Ta HMA HCK HFT2 hTl2
        obtain ⟨m, hm⟩ : ∃ m, a.l.length = m := ⟨_, rfl⟩
        have HTa := hide Ta
        have HFULa := hide fun W hb (h0 : 0 < a.l.length) => (HCE.out W hb).2.full h0
        rw [hm] at HCE hn40 hTl2 HFULa
        have HM := hide hm
        clear Ta Oa h0 e1 X1 HT HBr hT2 hm
        go_wp2
        go_loopw [8, 6] (fun i tv wr => ∃ (j : Nat), j ≤ m ∧ i = .int .i64 j ∧ tv = .bool (c || Tm.met (a.l.take j) key) ∧ Hid (Below wa.heap.size wa wr)) (fun i _ _ => m - (intOf i).toNat)
        case atStart => exact ⟨0, by omega, rfl, by simp [Tm.met], hide (Below.refl _ _)⟩
        case round =>
          obtain ⟨j, hj, rfl, rfl, HBi⟩ := hrel
          have HBx : Hid (Below w.heap.size w wr) := hide (HBa.out.trans (HBi.out.mono HBa.out.size))
          obtain ⟨e2, _⟩ := HCE.out wr HBx.out
          by_cases hjt : j < m
          · have hjt' : (j : Int) < m := by omega
            have hj0 : (0 : Int) ≤ (j : Int) := by omega
            obtain ⟨o, ho⟩ : ∃ o, a.l[j]? = some o := ⟨a.l[j]'(by have := HM.out; omega), by rw [List.getElem?_eq_getElem]⟩
            obtain ⟨b2, o2, cq2, hvx2, _, _, hB2, hcell2⟩ := HFULa.out wr HBx.out (by omega)
            simp only [Value.slice.injEq, true_and] at hvx2
            obtain ⟨rfl, rfl⟩ := hvx2
            obtain ⟨c0, c1, c2⟩ := hcell2 j o ho
            have hmo := List.mem_of_getElem? ho
            have X2 := hide (tget_any p b wr T2 o.k (HTa.out.below HBi.out) (by have := (HFA.out o hmo).1; omega))
            rw [HMA.out o hmo] at X2
            have HSN := hide (met_snoc key ho)
            have HCE2 : Hid (∀ W, Below wr.heap.size wr W → W.cell? ⟨b2, o2 + j * 3 + 1, none⟩ = some (.string o.k)) := hide fun W hb => (hb.cell (p := ⟨b2, o2 + j * 3 + 1, none⟩) hB2).trans c1
            clear hcell2 ho c0 c2
            go_wp2_with fail
            refine X2.out.mono ?_
            rintro E wc ⟨rfl, bc⟩
            have HBi2 := hide (HBi.out.trans (bc.mono HBi.out.size))
            have HBx2 := hide (HBx.out.trans (bc.mono HBx.out.size))
            obtain ⟨e3, _⟩ := HCE.out wc HBx2.out
            have e4 := HCE2.out wc bc
            obtain ⟨tc, htc⟩ : ∃ tc, (c || Tm.met (a.l.take j) key) = tc := ⟨_, rfl⟩
            have HTC : Hid ((c || Tm.met (a.l.take (j + 1)) key) = (tc || decide (o.k = key))) := hide (by rw [HSN.out, ← Bool.or_assoc, htc])
            rw [htc]
            clear X2 bc e2 c1 htc HSN
            cases tc
            · obtain ⟨q, hq⟩ : ∃ q, (o.k.toList == key.toList) = q := ⟨_, rfl⟩
              have HQ : Hid (q = (c || Tm.met (a.l.take (j + 1)) key)) := hide (by rw [HTC.out, ← hq, Tm.eqk]; rfl)
              go_wp2
              go_roundw
              case rel => exact ⟨j + 1, by omega, by go_num, by rw [← HQ.out], HBi2⟩
              case measure => simp [intOf]; omega
            · have HQ : Hid (true = (c || Tm.met (a.l.take (j + 1)) key)) := hide (by rw [HTC.out]; rfl)
              go_wp2
              go_roundw
              case rel => exact ⟨j + 1, by omega, by go_num, by rw [← HQ.out], HBi2⟩
              case measure => simp [intOf]; omega
          · have hjt' : ¬ (j : Int) < m := by omega
            have HQ : Hid (Tm.met T2 key = (c || Tm.met (a.l.take j) key)) := hide (by
              rw [HCK.out, HC.out, List.take_of_length_le (by have := HM.out; omega)])
            have HT3 := hide (HTa.out.below HBi.out)
            obtain ⟨tc, htc⟩ : ∃ tc, (c || Tm.met (a.l.take j) key) = tc := ⟨_, rfl⟩
            rw [htc] at HQ ⊢
            clear htc
            go_wp2
            go_roundw
            case rel => exact ⟨k + 1, T2, tc, by omega, by go_num, rfl, HT3, HQ, HFT2, by omega, HBx⟩
            case measure => simp [intOf]; omega
      · rw [h2]
        have haft : Tm.aft T a.l = T := by unfold Tm.aft; rw [h2]; rfl
        rw [haft] at Ta
        have HT2 := hide Ta
        clear X1 e1 Ta Oa haft
        go_wp2
        go_roundw
        case rel => exact ⟨k + 1, T, c, by omega, by go_num, rfl, HT2, HC, HFT, by omega, HBa⟩
        case measure => simp [intOf]; omega
    · have hlt' : ¬ (k : Int) < n := by omega
      have hn30 : n ≤ 30 := by rw [← HN.out]; exact HS.out.2
      have hT12 : T.length ≤ 1200 := by omega
      have X1 := hide (lall_any (.pointer (some ⟨p, 0, none⟩)) wr T 2000 (by omega) (tops_of HT.out HFT.out (by omega)))
      rw [List.take_of_length_le (by omega)] at X1
      have HUT := hide HT.out.up
      go_wp2_with fail
      refine X1.out.mono ?_
      rintro E wa ⟨va, rfl, owa, ba⟩
      have HTa := hide (HT.out.below ba)
      have HBa := hide (HBr.out.trans (ba.mono HBr.out.size))
      have HZa := hide ba.size
      have X2 := hide (llive_any (.pointer (some ⟨p, 0, none⟩)) wa T (by omega) (tops_of HTa.out HFT.out (by omega)))
      obtain ⟨aa, ac, hva, _, _⟩ := owa.is.shape
      obtain ⟨m, hm⟩ : ∃ m, T.length = m := ⟨_, rfl⟩
      rw [hm] at hva hT12
      subst hva
      have HOA := hide owa
      clear X1 ba owa HT HBr
      go_wp2_with fail
      refine X2.out.mono ?_
      rintro E wb ⟨vb, rfl, owb, bb⟩
      have HTb := hide (HTa.out.below bb)
      have HBb := hide (HBa.out.trans (bb.mono HBa.out.size))
      have HOA2 := hide (HOA.out.below bb)
      obtain ⟨ba, bcp, hvb, _, _⟩ := owb.is.shape
      obtain ⟨m2, hm2⟩ : ∃ m2, (Tm.live T).length = m2 := ⟨_, rfl⟩
      have hm2l : m2 ≤ m := by rw [← hm2, ← hm]; exact List.length_filter_le _ _
      rw [hm2] at hvb
      subst hvb
      have HOB := hide owb
      have HM := hide hm
      have HM2 := hide hm2
      clear X2 bb owb hm hm2 HOA HTa
      go_wp2
      go_loopw [15, 14] (fun i nv wr => ∃ (j : Nat), j ≤ m ∧ i = .int .i64 j ∧ nv = .int .i64 (lvn T j) ∧ Hid (Below wb.heap.size wb wr)) (fun i _ _ => m - (intOf i).toNat)
      case atStart => exact ⟨0, by omega, rfl, rfl, hide (Below.refl _ _)⟩
      case round =>
        obtain ⟨j, hj, rfl, rfl, HBi⟩ := hrel
        by_cases hjt : j < m
        · have hjt' : (j : Int) < m := by omega
          have hj0 : (0 : Int) ≤ (j : Int) := by omega
          obtain ⟨o, ho⟩ : ∃ o, T[j]? = some o := ⟨T[j]'(by have := HM.out; omega), by rw [List.getElem?_eq_getElem]⟩
          have hmo := List.mem_of_getElem? ho
          obtain ⟨ga, ca, hga⟩ := HOA2.out.slot (by have := HM.out; omega)
          rw [HM.out] at hga
          simp only [Value.slice.injEq, true_and] at hga
          obtain ⟨rfl, rfl⟩ := hga
          have HRA : Hid (∀ W, Below wb.heap.size wb W → ∀ (i : Nat) (x : Ov), T[i]? = some x → W.cell? ⟨ga, i * 3, none⟩ = some (.bool x.p) ∧ W.cell? ⟨ga, i * 3 + 1, none⟩ = some (.string x.k) ∧ W.cell? ⟨ga, i * 3 + 2, none⟩ = some (.string x.v)) := hide fun W hb i x hx => (own_at (HOA2.out.below hb) HM.out i x hx).1
          obtain ⟨c0, c1, c2⟩ := HRA.out wr HBi.out j o ho
          obtain ⟨e1, e2⟩ := gv_mem HUT.out hmo
          have X3 := hide (tget_any p b wr T o.k (HTb.out.below HBi.out) (by have := (HFT.out o hmo).1; omega))
          rw [met_mem hmo, e1, e2] at X3
          have HOj := hide ho
          clear ho e1 e2
          go_wp2_with fail
          refine X3.out.mono ?_
          rintro E wc ⟨rfl, bc⟩
          have HBc := hide (HBi.out.trans (bc.mono HBi.out.size))
          clear X3 bc c0 c1 c2 HBi
          rcases j with _ | j'
          · obtain ⟨c0, c1, c2⟩ := HRA.out wc HBc.out 0 o HOj.out
            simp only [Nat.zero_mul, Nat.zero_add] at c0 c1 c2
            go_wp2_with fail
            go_quiet (fail)
            obtain ⟨wd, hwd⟩ : ∃ wd, wc.drewN nq = wd := ⟨_, rfl⟩
            have HBd : Hid (Below wb.heap.size wb wd) := hide (by rw [← hwd]; exact below_drewN HBc.out _)
            rw [hwd]
            clear hwd c0 c1 c2 HBc
            obtain ⟨c0, c1, c2⟩ := HRA.out wd HBd.out 0 o HOj.out
            simp only [Nat.zero_mul, Nat.zero_add] at c0 c1 c2
            cases hpp : o.p
            · have HLV := hide (lvn_no HOj.out hpp)
              rw [hpp] at c0
              clear hpp
              go_wp2
              go_roundw
              case rel => exact ⟨0 + 1, by omega, by go_num, by rw [HLV.out], HBd⟩
              case measure => simp [intOf]; omega
            · obtain ⟨y1, y2⟩ := lvn_yes HOj.out hpp
              have hlb : lvn T 0 < m2 := by rw [← HM2.out]; exact (List.getElem?_eq_some_iff.1 y2).1
              have HLV := hide y1
              obtain ⟨gb, cb, hgb⟩ := HOB.out.slot (by have := HM2.out; omega)
              rw [HM2.out] at hgb
              simp only [Value.slice.injEq, true_and] at hgb
              obtain ⟨rfl, rfl⟩ := hgb
              obtain ⟨⟨d0, d1, d2⟩, _⟩ := own_at (HOB.out.below HBd.out) HM2.out (lvn T 0) o y2
              rw [hpp] at c0 d0
              obtain ⟨z, hz⟩ : ∃ z, lvn T 0 = z := ⟨_, rfl⟩
              rw [hz] at hlb d0 d1 d2 HLV ⊢
              have hlb' : (z : Int) < m2 := by omega
              have hlb2 : ¬ (m2 : Int) ≤ z := by omega
              have hz0 : (0 : Int) ≤ (z : Int) := by omega
              have hnq : ∀ W, (binOp .neq 28 (.agg #[.bool true, .string o.k, .string o.v]) (.agg #[.bool true, .string o.k, .string o.v])).run Try.prog W = .ok (.bool false) W := fun W => by
                have := Try.neqO ⟨true, o.k, o.v⟩ ⟨true, o.k, o.v⟩ W
                rw [show Bm.eqO ⟨true, o.k, o.v⟩ ⟨true, o.k, o.v⟩ = true from Bm.eqO_iff.2 rfl] at this
                exact this
              have hgd := @Try.guardO
              clear y1 y2 hz hpp
              go_wp2_with fail
              go_quiet (fail)
              have HBe := hide (below_drewN HBd.out nq)
              clear c0 c1 c2 d0 d1 d2 HBd
              go_wp2
              go_roundw
              case rel => exact ⟨0 + 1, by omega, by go_num, by rw [HLV.out]; go_num, HBe⟩
              case measure => simp [intOf]; omega
          · obtain ⟨c0, c1, c2⟩ := HRA.out wc HBc.out (j' + 1) o HOj.out
            obtain ⟨x, hx⟩ : ∃ x, T[j']? = some x := ⟨T[j']'(by have := HM.out; omega), by rw [List.getElem?_eq_getElem]⟩
            obtain ⟨x0, x1, x2⟩ := HRA.out wc HBc.out j' x hx
            have hlx := up_at HUT.out hx HOj.out
            have hl1 : Op.bytesLess x.k.toList o.k.toList = true := by rw [Tm.less_lt]; exact hlx
            have hl2 : Op.bytesLess o.k.toList x.k.toList = false := by rw [Tm.less_lt]; exact Tm.lt_asy hlx
            have hl3 : (o.k.toList == x.k.toList) = false := by rw [Tm.eqk]; simp [(Tm.lt_ne hlx).symm]
            have hjm : (j' : Int) < m := by omega
            have hj1 : (0 : Int) < (j' : Int) + 1 := by omega
            have hja : (j' : Int) + 1 < m := by omega
            have hjb : (0 : Int) ≤ (j' : Int) + 1 := by omega
            clear hx hlx
            go_wp2_with fail
            go_quiet (fail)
            obtain ⟨wd, hwd⟩ : ∃ wd, wc.drewN nq = wd := ⟨_, rfl⟩
            have HBd : Hid (Below wb.heap.size wb wd) := hide (by rw [← hwd]; exact below_drewN HBc.out _)
            rw [hwd]
            clear hwd c0 c1 c2 HBc
            obtain ⟨c0, c1, c2⟩ := HRA.out wd HBd.out (j' + 1) o HOj.out
            cases hpp : o.p
            · have HLV := hide (lvn_no HOj.out hpp)
              rw [hpp] at c0
              clear hpp
              go_wp2
              go_roundw
              case rel => exact ⟨j' + 1 + 1, by omega, by go_num, by rw [HLV.out], HBd⟩
              case measure => simp [intOf]; omega
            · obtain ⟨y1, y2⟩ := lvn_yes HOj.out hpp
              have hlb : lvn T (j' + 1) < m2 := by rw [← HM2.out]; exact (List.getElem?_eq_some_iff.1 y2).1
              have HLV := hide y1
              obtain ⟨gb, cb, hgb⟩ := HOB.out.slot (by have := HM2.out; omega)
              rw [HM2.out] at hgb
              simp only [Value.slice.injEq, true_and] at hgb
              obtain ⟨rfl, rfl⟩ := hgb
              obtain ⟨⟨d0, d1, d2⟩, _⟩ := own_at (HOB.out.below HBd.out) HM2.out (lvn T (j' + 1)) o y2
              rw [hpp] at c0 d0
              obtain ⟨z, hz⟩ : ∃ z, lvn T (j' + 1) = z := ⟨_, rfl⟩
              rw [hz] at hlb d0 d1 d2 HLV ⊢
              have hlb' : (z : Int) < m2 := by omega
              have hlb2 : ¬ (m2 : Int) ≤ z := by omega
              have hz0 : (0 : Int) ≤ (z : Int) := by omega
              have hnq : ∀ W, (binOp .neq 28 (.agg #[.bool true, .string o.k, .string o.v]) (.agg #[.bool true, .string o.k, .string o.v])).run Try.prog W = .ok (.bool false) W := fun W => by
                have := Try.neqO ⟨true, o.k, o.v⟩ ⟨true, o.k, o.v⟩ W
                rw [show Bm.eqO ⟨true, o.k, o.v⟩ ⟨true, o.k, o.v⟩ = true from Bm.eqO_iff.2 rfl] at this
                exact this
              have hgd := @Try.guardO
              clear y1 y2 hz hpp
              go_wp2_with fail
              go_quiet (fail)
              have HBe := hide (below_drewN HBd.out nq)
              clear c0 c1 c2 d0 d1 d2 HBd
              go_wp2
              go_roundw
              case rel => exact ⟨j' + 1 + 1, by omega, by go_num, by rw [HLV.out]; go_num, HBe⟩
              case measure => simp [intOf]; omega
        · have hjt' : ¬ (j : Int) < m := by omega
          have hjm : j = m := by omega
          subst hjm
          have HLN : Hid (lvn T j = m2) := hide (by rw [lvn_all T j (by have := HM.out; omega)]; exact HM2.out)
          have X3 := hide (tget_any p b wr T key (HTb.out.below HBi.out) (by omega))
          rw [HC.out] at X3
          rw [HLN.out]
          go_wp2_with fail
          refine X3.out.mono ?_
          rintro E wc ⟨rfl, bc⟩
          have HBc := hide (HBi.out.trans (bc.mono HBi.out.size))
          have X4 := hide (tlen_any p b wc T (HTb.out.below HBc.out))
          rw [HM.out] at X4
          clear X3 bc HBi
          go_wp2_with fail
          refine X4.out.mono ?_
          rintro E wx ⟨rfl, rfl⟩
          have X5 := hide (lall_any (.pointer (some ⟨p, 0, none⟩)) wc T 2000 (by omega) (tops_of (HTb.out.below HBc.out) HFT.out (by omega)))
          rw [List.take_of_length_le (by omega)] at X5
          clear X4
          go_wp2_with fail
          refine X5.out.mono ?_
          rintro E wd ⟨vd, rfl, owd, bd⟩
          have HBd := hide (HBc.out.trans (bd.mono HBc.out.size))
          have X6 := hide (sameO_any _ vd T T wd (HOA2.out.below HBd.out).is owd.is (by omega) (by omega))
          rw [Bm.sameL_self] at X6
          obtain ⟨da, dc, hvd, _, _⟩ := owd.is.shape
          rw [HM.out] at hvd
          subst hvd
          clear X5 owd bd
          go_wp2_with fail
          refine X6.out.mono ?_
          rintro E we ⟨rfl, be⟩
          have HE := hide (HBb.out.trans ((HBd.out.trans (be.mono HBd.out.size)).mono HBb.out.size))
          clear X6 be
          go_wp2
          go_ret
          exact ⟨rfl, HE.out⟩

end Go.Proofs.Ytlfhpbiapnjghaa
