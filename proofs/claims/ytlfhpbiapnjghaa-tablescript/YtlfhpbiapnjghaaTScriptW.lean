/- The walk of TableScript. -/
import Derived.Test.YtlfhpbiapnjghaaTt
import Derived.Test.YtlfhpbiapnjghaaBo
import Derived.Test.YtlfhpbiapnjghaaCutb
import Derived.Test.YtlfhpbiapnjghaaPick
namespace Go.Proofs.Ytlfhpbiapnjghaa
open Go.RowKit
open Bm (Ov)
set_option linter.unusedVariables false

theorem Dt.out {F : Nat → Prop} {r base : Nat} {w w' : World} {v : Value} {t : List Ov} (h : Dt r base w v t) (ho : Out F w w') (h1 : ¬ F r) (h2 : ∀ g, v.ownBlock = some g → ¬ F g) : Dt r base w' v t := h.agree (ho.block r h.lt h1) fun g hg => ho.block g (h.own.block g hg).2 (h2 g hg)

theorem IsO.out {F : Nat → Prop} {w w' : World} {v : Value} {l : List Ov} {base : Nat} (h : OwnO 28 base w v l) (ho : Out F w w') (h2 : ∀ g, base ≤ g → g < w.heap.size → ¬ F g) : OwnO 28 base w' v l := h.agree fun g hg => ho.block g (h.block g hg).2 (h2 g (h.block g hg).1 (h.block g hg).2)

theorem own_slot {e base : Nat} {w : World} {v : Value} {l : List Ov} (h : OwnO e base w v l) (h0 : 0 < l.length) : ∃ g cap, v = .slice (some ⟨g, 0, none⟩) l.length cap := by
  rcases h.2 with ⟨_, hz⟩ | ⟨g, cap, cur, hv, _⟩
  · omega
  · exact ⟨g, cap, hv⟩

def oOver : Ov := ⟨true, ⟨#[111, 118, 101, 114]⟩, ⟨#[]⟩⟩

set_option maxRecDepth 100000 in
set_option maxHeartbeats 8000000 in
theorem tableScript_walk (v : Value) (r : List Rw) (vk : Value) (ks : List ByteArray) (stop : Int) (w : World) (h : IsLL w v r) (hf : FitL r) (hr : r.length * 24 ≤ 140737488351232) (hk : IsS w vk ks) (hkf : FitS ks) (hkl : ks.length * 16 ≤ 140737488351232) (hst : (Lit.int .i64 stop).wf = true) :
    Calls Try.prog 4 #[v, vk, .int .i64 stop] w fun E w' => E = .returned (.bool true) ∧ Below w.heap.size w w' := by
  have HL := hide h
  obtain ⟨ao, cap, hv, hcap, hcm⟩ := h.1.shape
  subst hv
  have HF := hide hf
  have HI := hide (i64_of hst)
  have HKS := hide hk
  have HKF := hide hkf
  obtain ⟨kao, kcap, hvk, _, _⟩ := RowG.shape hk
  subst hvk
  clear h hf hst hk hkf
  go_enter Try.func4, Try.ntmps4
  go_wp2_with fail
  refine (lives_any w).mono ?_
  rintro E w0 ⟨rfl, b0⟩
  have X0 := hide (tsmall_any _ r w0 (HL.out.below b0) (by omega))
  go_wp2_with fail
  refine X0.out.mono ?_
  rintro E wx ⟨hor, rfl⟩
  rcases hor with rfl | ⟨rfl, HS⟩
  · clear X0
    go_wp2
    go_ret
    exact ⟨rfl, b0⟩
  clear X0
  by_cases hk40 : ks.length ≤ 40
  rotate_left
  · have hki : (40 : Int) < (ks.length : Int) := by omega
    go_wp2
    go_ret
    exact ⟨rfl, b0⟩
  have hki : ¬ (40 : Int) < (ks.length : Int) := by omega
  go_wp2_with fail
  refine (tnew_any w0).mono ?_
  rintro E w1 ⟨rfl, A1, b1⟩
  go_wp2_with fail
  refine (newR_any w1).mono ?_
  rintro E w2 ⟨rfl, D2, b2⟩
  have HB2 := hide ((b0.trans (b1.mono b0.size)).trans (b2.mono (Nat.le_trans b0.size b1.size)))
  obtain ⟨p, hp⟩ : ∃ p, w0.heap.size + 1 = p := ⟨_, rfl⟩
  obtain ⟨b, hb⟩ : ∃ b, w0.heap.size = b := ⟨_, rfl⟩
  obtain ⟨rr, hrr⟩ : ∃ rr, w1.heap.size = rr := ⟨_, rfl⟩
  have ORD : Hid (w.heap.size ≤ b ∧ b < p ∧ p < rr) := hide (by have := b0.size; have := A1.plt; omega)
  have A2 := A1.below b2
  rw [hp, hb] at A2
  rw [hrr] at D2
  rw [hp, hrr]
  have HA2 := hide A2
  have HD2 := hide D2
  clear A1 A2 D2 b0 b1 b2 hp hb hrr
  obtain ⟨n, hnn⟩ : ∃ n, r.length = n := ⟨_, rfl⟩
  rw [hnn] at hcap hr ⊢
  have HN := hide hnn
  have HFULL := hide fun (h0 : 0 < r.length) => HL.out.full h0
  rw [hnn] at HFULL
  clear hnn
  go_wp2
  go_loopw [9] (fun i wr => ∃ (k : Nat) (T : List Ov) (vt : Value), k ≤ n ∧ i = .int .i64 k ∧ Hid (Tb p b wr T) ∧ Hid (Dt rr rr wr vt T) ∧ Hid (FitO T) ∧ T.length ≤ k * 40 ∧ Hid (Below w.heap.size w wr)) (fun i _ => n - (intOf i).toNat)
  case atStart => exact ⟨0, [], _, by omega, rfl, HA2, HD2, hide fit_nil, by simp, HB2⟩
  case round =>
    obtain ⟨k, T, vt, hk, rfl, HT, HD, HFT, hTl, HBr⟩ := hrel
    have hn30 : n ≤ 30 := by rw [← HN.out]; exact HS.out.2
    by_cases hlt : k < n
    · obtain ⟨a, ha⟩ : ∃ a, r[k]? = some a := ⟨r[k]'(by have := HN.out; omega), by rw [List.getElem?_eq_getElem]⟩
      obtain ⟨b1, o1, cq, hvx, _, _, hB, hcell⟩ := HFULL.out (by have := HN.out; omega)
      simp only [Value.slice.injEq, true_and] at hvx
      obtain ⟨rfl, rfl⟩ := hvx
      have hc0 := hcell k a ha
      have hma := List.mem_of_getElem? ha
      have isa := HL.out.2 a hma
      obtain ⟨av, ac, hav, _, _⟩ := isa.shape
      have hn40 := HS.out.1 a hma
      have HFA := hide (HF.out a hma)
      obtain ⟨al, hal⟩ : ∃ al, a.l = al := ⟨_, rfl⟩
      rw [hal] at isa hav hn40 HFA
      obtain ⟨m, hm⟩ : ∃ m, al.length = m := ⟨_, rfl⟩
      have hn40' : m ≤ 40 := by omega
      have HCE : Hid (∀ W, Below w.heap.size w W → W.cell? ⟨b1, o1 + k, none⟩ = some (.slice av m ac) ∧ IsO W (.slice av m ac) al) := hide fun W hb => by
        rw [hm] at hav
        exact ⟨by rw [← hav]; exact (hb.cell (p := ⟨b1, o1 + k, none⟩) hB).trans hc0, by rw [← hav]; exact isa.below hb⟩
      have HAB : Hid (∀ g, av.map (·.block) = some g → 0 < m → g < w.heap.size) := hide fun g hg h0 => by
        obtain ⟨bq, oq, cq2, hvq, _, _, hBq, _⟩ := isa.full (by omega)
        rw [hav] at hvq
        simp only [Value.slice.injEq] at hvq
        rw [hvq.1] at hg
        simp at hg
        omega
      have X1 := hide (lentO_any _ al wr (HCE.out wr HBr.out).2 (by omega))
      have e1 := (HCE.out wr HBr.out).1
      have hlt' : (k : Int) < n := by omega
      have hk0 : (0 : Int) ≤ (k : Int) := by omega
      have HM := hide hm
      clear hcell hc0 isa hav ha hma hal hm hn40
      go_wp2_with fail
      refine X1.out.mono ?_
      rintro E wa ⟨v1, rfl, ow1, ba⟩
      obtain ⟨M, hMM⟩ : ∃ M, m + 3 = M := ⟨_, rfl⟩
      have hl3 : (al ++ [behind, behind, behind]).length = M := by rw [List.length_append, HM.out, ← hMM]; rfl
      have hM1 : m < M := by omega
      have hM2 : M ≤ 43 := by omega
      have HL3 := hide hl3
      obtain ⟨gf, fc, hv1⟩ := own_slot ow1 (by omega)
      rw [hl3] at hv1
      subst hv1
      clear hMM
      have HBa := hide (HBr.out.trans (ba.mono HBr.out.size))
      obtain ⟨vs, hsl, isl⟩ := ow1.is.slice_h Try.elemO Try.sizeO m (by omega)
      rw [List.take_left' HM.out] at isl
      have hgf := ow1.block gf rfl
      have HTa := hide (HT.out.below ba)
      have HDa := hide (HD.out.below ba)
      have HDL := hide HD.out.lt
      have HTL := hide (HT.out.plt)
      have HVT : Hid (∀ g, vt.ownBlock = some g → rr ≤ g ∧ g < wr.heap.size) := hide HD.out.own.block
      have HOW := hide ow1
      have HISL := hide isl
      obtain ⟨cf, hcf⟩ : ∃ cf, Bm.first al = cf := ⟨_, rfl⟩
      obtain ⟨T2, hT2⟩ : ∃ T2, Tm.aft T al = T2 := ⟨_, rfl⟩
      have hT2l : T2.length ≤ T.length + m := by rw [← hT2, ← HM.out]; exact aft_len T al
      have HFT2 : Hid (FitO T2) := hide (by rw [← hT2]; exact fit_aft HT.out.up HFT.out HFA.out)
      have XA : Hid (∀ W, Below wa.heap.size wa W → Calls Try.prog 10 #[.pointer (some ⟨p, 0, none⟩), vs] W fun E w' => E = .returned (.int .i64 cf) ∧ Hid (Tb p b w' T2) ∧ Hid (w'.heap[rr]? = wa.heap[rr]?) ∧ Out (fun g => g = b ∨ g = rr) wa w') := hide fun W hb => by
        have := tapply_any p b W T vs al (HTa.out.below hb) (HISL.out.below hb) HFA.out (by have := HM.out; omega)
        rw [hcf, hT2] at this
        refine this.mono ?_
        rintro E w' ⟨rfl, T1, O1⟩
        have hq : rr < wa.heap.size := by have := HDL.out; have := ba.size; omega
        exact ⟨rfl, hide T1, hide ((O1.block rr (by have := hb.size; omega) (by have := ORD.out; omega)).trans (hb.block rr hq)), (Out.of_below (F := fun g => g = b ∨ g = rr) hb).trans O1 fun g hg => .inl (.inl hg)⟩
      have XR : Hid (∀ W, Out (fun g => g = b ∨ g = rr) wa W → W.heap[rr]? = wa.heap[rr]? → Tb p b W T2 → Calls Try.prog 20 #[.pointer (some ⟨rr, 0, none⟩), .slice av m ac] W fun E w' => E = .returned (.int .i64 cf) ∧ Hid (Tb p b w' T2) ∧ Hid (∃ v', Dt rr rr w' v' T2 ∧ ∀ g, v'.ownBlock = some g → rr ≤ g ∧ g ≠ gf) ∧ Out (fun g => g = b ∨ g = rr) wa w') := hide fun W ho hrr hT => by
        have o := ORD.out
        have hz := ho.size
        have hDl := HDL.out
        have hbw : Below w.heap.size w W := HBa.out.trans (ho.below (fun g hg => by omega) HBa.out.size)
        have hD : Dt rr rr W vt T := HDa.out.agree hrr fun g hg => ho.block g (by have := HVT.out g hg; have := ba.size; omega) (by have := HVT.out g hg; have := HDa.out.ne g hg; omega)
        have := applyR_any rr rr W vt (.slice av m ac) T al hD HT.out.up (HCE.out W hbw).2 (fun h0 g hg => by
          have := HAB.out g (by cases av <;> simp_all [Value.ownBlock]) (by have := HM.out; omega)
          omega) HFA.out (by have := HM.out; omega) (by omega)
        rw [hcf, hT2] at this
        refine this.mono ?_
        rintro E w' ⟨rfl, ⟨v', D1, hg1⟩, O1⟩
        refine ⟨rfl, hide (hT.out O1 (by omega) (by omega)), hide ⟨v', D1, fun g hg => ⟨(D1.own.block g hg).1, fun e => ?_⟩⟩, ho.trans O1 fun g hg => .inl (.inr hg)⟩
        rcases hg1 g hg with h1 | h1
        · have := HVT.out g h1
          omega
        · omega
      have XK : Hid (∀ W, Out (fun g => g = b ∨ g = rr) wa W → Calls Try.prog 21 #[.slice (some ⟨gf, 0, none⟩) M fc, .slice av m ac] W fun E w' => E = .returned (.bool true) ∧ Hid (Below W.heap.size W w') ∧ Out (fun g => g = b ∨ g = rr) wa w') := hide fun W ho => by
        have o := ORD.out
        have hDl := HDL.out
        have hbw : Below w.heap.size w W := HBa.out.trans (ho.below (fun g hg => by omega) HBa.out.size)
        refine (keptO_yes _ _ al _ W (IsO.out HOW.out ho fun g h1 _ => by omega).is (HCE.out W hbw).2 (by have := HM.out; omega) rfl).mono ?_
        rintro E w' ⟨rfl, bb⟩
        exact ⟨rfl, hide bb, ho.trans (Out.of_below (F := fun g => g = b) bb) fun g hg => .inl (.inl hg)⟩
      have FB : Hid (∀ W, Out (fun g => g = b ∨ g = rr) wa W → W.cell? ⟨b1, o1 + k, none⟩ = some (.slice av m ac)) := hide fun W ho => by
        have o := ORD.out
        exact (HCE.out W (HBa.out.trans (ho.below (fun g hg => by omega) HBa.out.size))).1
      have ZB := hide (Below.refl wa.heap.size wa)
      have d0 := FB.out wa (Out.refl _ _)
      clear e1 isl ow1 X1 hcf hT2
      go_wp2_with fail
      go_region_held3 (fun w' => w'.cell? ⟨b1, o1 + k, none⟩ = some (.slice av m ac))
        (first | exact FB.out _ o3 | exact FB.out _ o2 | exact FB.out _ o1' | exact FB.out _ (Out.of_below (ZB.out.drew)) | go_keep)
        (first
        | (go_at_call 10; refine (XA.out _ (ZB.out.drew)).mono ?_; rintro E w1 ⟨rfl, t1, r1, o1'⟩)
        | (go_at_call 20; refine (XR.out _ o1' r1.out t1.out).mono ?_; rintro E w2 ⟨rfl, t2, dd2, o2⟩)
        | (go_at_call 21; refine (XK.out _ o2).mono ?_; rintro E w3 ⟨rfl, b23, o3⟩))
      obtain ⟨vt2, D2', hvt2⟩ := dd2.out
      have HT3 := hide (t2.out.below b23.out)
      have HD3 := hide (D2'.below b23.out)
      have HV3 := hide hvt2
      have HOW3 := hide (IsO.out HOW.out o3 fun g h1 _ => by have := ORD.out; have := HDL.out; omega)
      have HB3 : Hid (Below w.heap.size w w3) := hide (HBa.out.trans (o3.below (fun g hg => by have := ORD.out; omega) HBa.out.size))
      have HGF : Hid (wr.heap.size ≤ gf ∧ gf < w3.heap.size) := hide (by have := o3.size; omega)
      have HW3 := hide o3.size
      clear XA XR XK FB d0 o1' o2 o3 b23 t1 t2 r1 dd2 D2' hvt2 HT HD HTa HDa HISL hsl HCE
      go_wp2
      go_loopw [11] (fun i wq => ∃ (j : Nat) (L : List Ov), j ≤ M ∧ i = .int .i64 j ∧ Hid (L.length = M) ∧ Hid (OwnO 28 wr.heap.size wq (.slice (some ⟨gf, 0, none⟩) M fc) L) ∧ Hid (Out (fun g => g = gf) w3 wq)) (fun i _ => M - (intOf i).toNat)
      case atStart => exact ⟨0, _, by omega, rfl, HL3, HOW3, hide (Out.refl _ _)⟩
      case round =>
        obtain ⟨j, L, hj, rfl, HLM, HOQ, HOUT⟩ := hrel
        by_cases hjt : j < M
        · have hjt' : (j : Int) < M := by omega
          have hj0 : (0 : Int) ≤ (j : Int) := by omega
          obtain ⟨x, hx⟩ : ∃ x, L[j]? = some x := ⟨L[j]'(by have := HLM.out; omega), by rw [List.getElem?_eq_getElem]⟩
          obtain ⟨⟨c0, c1, c2⟩, f0, f1, f2⟩ := own_at HOQ.out HLM.out j x hx
          obtain ⟨W7, hW7, ow7, gr7⟩ := own_put HOQ.out HLM.out j hjt oOver
          have R1 : Hid ((L.set j oOver).length = M) := hide (by rw [List.length_set]; exact HLM.out)
          have R2 := hide ow7
          have R3 := hide (HOUT.out.trans (Out.of_grown (F := fun g => g = gf) gr7 fun g hg => by simpa using hg.symm) fun g hg => .inl hg)
          unfold oOver at hW7
          simp only at hW7
          clear ow7 gr7 hx HOUT HOQ
          go_wp2
          go_roundw
          case rel => exact ⟨j + 1, _, by omega, by go_num, R1, R2, R3⟩
          case measure => simp [intOf]; omega
        · have hjt' : ¬ (j : Int) < M := by omega
          have hgf := HGF.out
          have hrl := HDL.out
          have ho := ORD.out
          have HTq := hide (HT3.out.out HOUT.out (by omega) (by omega))
          have HDq := hide (HD3.out.out HOUT.out (by omega) (fun g hg => (HV3.out g hg).2))
          have HBq : Hid (Below w.heap.size w wr) := hide (HB3.out.trans (HOUT.out.below (fun g hg => by omega) HB3.out.size))
          have X9 := hide (lsame_any p b rr rr wr _ _ T2 ks HTq.out HDq.out HFT2.out (by omega) (RowG.below HKS.out HBq.out) HKF.out hk40)
          go_wp2_with fail
          refine X9.out.mono ?_
          rintro E wz ⟨rfl, bz⟩
          have HTz := hide (HTq.out.below bz)
          have HDz := hide (HDq.out.below bz)
          have HBz := hide (HBq.out.trans (bz.mono HBq.out.size))
          clear X9 bz
          go_wp2
          go_roundw
          case rel => exact ⟨k + 1, T2, _, by omega, by go_num, HTz, HDz, HFT2, by omega, HBz⟩
          case measure => simp [intOf]; omega
    · have hlt' : ¬ (k : Int) < n := by omega
      obtain ⟨L, hL⟩ : ∃ L, T.length = L := ⟨_, rfl⟩
      have hL12 : L ≤ 1200 := by omega
      obtain ⟨vta, vtc, hvt⟩ := shape_len HD.out.own hL
      subst hvt
      have e1 := HD.out.list
      have X1 := hide (pickx_any stop ((L : Int) + 1) wr (by omega) (by omega) HI.out)
      obtain ⟨hp1, hp2⟩ := pk_lt stop ((L : Int) + 1) (by omega)
      obtain ⟨q, hq⟩ : ∃ q : Nat, pk stop ((L : Int) + 1) = q := ⟨(pk stop ((L : Int) + 1)).toNat, by omega⟩
      rw [hq] at X1 hp1 hp2
      have hqm : q ≤ L := by omega
      have HL := hide hL
      clear hq hp1 hp2 hL
      go_wp2_with fail
      refine X1.out.mono ?_
      rintro E wf ⟨rfl, rfl⟩
      have X2 := hide (lall_any (.pointer (some ⟨p, 0, none⟩)) wr T q (by have := HL.out; omega) (tops_of HT.out HFT.out (by have := HL.out; omega)))
      clear X1
      go_wp2_with fail
      refine X2.out.mono ?_
      rintro E wa ⟨v1, rfl, ow1, ba⟩
      have HDa := hide (HD.out.below ba)
      have HTa := hide (HT.out.below ba)
      have HBa := hide (HBr.out.trans (ba.mono HBr.out.size))
      have X3 := hide (allR_any rr rr wa _ T HDa.out (by have := HL.out; omega))
      obtain ⟨v1a, v1c, hv1⟩ := shape_len ow1 (show (T.take q).length = q by rw [List.length_take]; have := HL.out; omega)
      subst hv1
      clear X2 ba e1
      go_wp2_with fail
      refine X3.out.mono ?_
      rintro E wb ⟨v2, rfl, ow2, bb⟩
      have HDb := hide (HDa.out.below bb)
      have HTb := hide (HTa.out.below bb)
      have HBb := hide (HBa.out.trans (bb.mono HBa.out.size))
      obtain ⟨v2a, v2c, hv2⟩ := shape_len ow2 HL.out
      subst hv2
      obtain ⟨vs, hsl, isl⟩ := ow2.is.slice_h Try.elemO Try.sizeO q (by have := HL.out; omega)
      have X4 := hide (sameO_any _ vs (T.take q) (T.take q) wb (ow1.below bb).is isl (by rw [List.length_take]; have := HL.out; omega) (by rw [List.length_take]; have := HL.out; omega))
      rw [Bm.sameL_self] at X4
      clear X3 bb ow1 ow2 isl HDa HTa
      go_wp2_with fail
      refine X4.out.mono ?_
      rintro E wc ⟨rfl, bc⟩
      have HBc := hide (HBb.out.trans (bc.mono HBb.out.size))
      have X5 := hide (lsame_any p b rr rr wc _ _ T ks (HTb.out.below bc) (HDb.out.below bc) HFT.out (by have := HL.out; omega) (RowG.below HKS.out HBc.out) HKF.out hk40)
      clear X4 bc hsl
      go_wp2_with fail
      refine X5.out.mono ?_
      rintro E wd ⟨rfl, bd⟩
      have HBd := hide (HBc.out.trans (bd.mono HBc.out.size))
      clear X5 bd
      go_wp2
      go_ret
      exact ⟨rfl, HBd.out⟩

end Go.Proofs.Ytlfhpbiapnjghaa
