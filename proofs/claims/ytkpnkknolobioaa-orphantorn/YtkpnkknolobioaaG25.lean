/- Texts of one layer, one behind the other. -/
import Derived.Test.YtkpnkknolobioaaG24
import Derived.Test.YtkpnkknolobioaaG20
import Derived.Test.YtkpnkknolobioaaG1
import Derived.Test.YtkpnkknolobioaaG18
import Derived.Test.YtkpnkknolobioaaG4
import Derived.Test.YtkpnkknolobioaaG12
import Derived.ArgAppend
/- The program's disk: Write, whatever the disk and the file. -/
namespace Go.Proofs.Ytkpnkknolobioaa
open Go.RowKit Go.Shelf
set_option linter.unusedVariables false
attribute [local go_sem] Oper.semAt_some

set_option maxRecDepth 100000 in
set_option maxHeartbeats 2000000 in
theorem write_any (p : Nat) (F : Nat → Prop) (w : World) (st : Dm.Ds) (file : Int) (vb : Value) (bs : List Int) (h : Pk p F w st) (hb : Is .u8 w vb bs) (hbF : 0 < bs.length → ∀ b, vb.ownBlock = some b → ¬ F b) (hLm : bs.length ≤ 1000000)
    (hw : st.wait.length + cnt bs.length ≤ 1000000) (hl : st.left ≤ 9223372036854775807) (hc : st.count + cnt bs.length < 9223372036854775807) :
    Calls Try.prog 54 #[.pointer (some ⟨p, 0, none⟩), .int .i64 file, vb] w fun E w' => E = .returned (.int .i64 (Dm.write st file bs).1) ∧ PStep p F w w' (Dm.write st file bs).2 := by
  unfold Dm.write
  obtain ⟨w1, hw1, sz1, bel1, B1⟩ := blk_step w #[.pointer (some ⟨p, 0, none⟩)] 56
  obtain ⟨w2, hw2, sz2, bel2, B2⟩ := blk_step w1 #[.int .i64 file] 3
  obtain ⟨w3, hw3, sz3, bel3, B3⟩ := blk_step w2 #[.int .i64 0] 28
  rw [sz1] at B2 bel2
  rw [show w2.heap.size = w.heap.size + 2 by omega] at B3 bel3
  have bel03 : Below w.heap.size w w3 := (bel1.trans (bel2.mono (by omega))).trans (bel3.mono (by omega))
  have HR := hide (refuses_any p F w3 st (h.below bel03))
  have HF := hide (isfile_any file w3)
  have HK := hide h
  replace sz2 : w2.heap.size = w.heap.size + 2 := by omega
  replace sz3 : w3.heap.size = w.heap.size + 3 := by omega
  have C0 : w3.cell? ⟨w.heap.size, 0, none⟩ = some (.pointer (some ⟨p, 0, none⟩)) := by
    have e1 := (bel2.block w.heap.size (by omega)).trans B1
    exact blk_cell ((bel3.block w.heap.size (by omega)).trans e1) 0 rfl
  have C1 : w3.cell? ⟨w.heap.size + 1, 0, none⟩ = some (.int .i64 file) := blk_cell ((bel3.block (w.heap.size + 1) (by omega)).trans B2) 0 rfl
  have C2 : w3.cell? ⟨w.heap.size + 2, 0, none⟩ = some (.int .i64 0) := blk_cell B3 0 rfl
  have f2 := blk_froz B3 0
  have hend : ∀ e : Int, Below w.heap.size w (w3.setCell ⟨w.heap.size + 2, 0, none⟩ (.int .i64 e)) ∧ (w3.setCell ⟨w.heap.size + 2, 0, none⟩ (.int .i64 e)).cell? ⟨w.heap.size + 2, 0, none⟩ = some (.int .i64 e) := fun e =>
    ⟨bel03.grown (grown_setCell w3 ⟨w.heap.size + 2, 0, none⟩ _) (by omega) fun k hk => by simp at hk; omega, blk_cell (set_cells B3 0 (.int .i64 e)) 0 (by simp)⟩
  have HE := hide hend
  cases hon : st.on
  · rw [if_pos rfl]
    have hk := ask_off hon
    clear h hon hend B1 B2 B3
    refine (callsIn_wide (n := 6)).1 ?_
    refine callsIn_of_wp_marks Try.func54 rfl trivial ?_ rfl
    simp only [Try.ntmps54, List.size_toArray, List.length_cons, List.length_nil, Nat.reduceAdd, Nat.reduceSub, Array.replicate_succ, Array.replicate_zero, List.push_toArray, List.append_toArray, List.nil_append, List.cons_append]
    gi_wp2_with fail
    refine ⟨trivial, (callsIn_wide.2 HR.out).mono ?_⟩
    rintro E w' ⟨rfl, rfl⟩
    rw [hk]
    gi_wp2
    obtain ⟨b6, c6⟩ := HE.out 6
    refine ⟨.int .i64 6, ?_, rfl, PStep.same HK.out b6⟩
    simp [results, Try.results54, go_sem, c6]
  · rw [if_neg (by simp)]
    have hk := ask_on hon
    cases hin : Dm.inF file
    · rw [if_pos rfl]
      rw [hin] at HF
      clear h hon hend B1 B2 B3 hin
      refine (callsIn_wide (n := 6)).1 ?_
      refine callsIn_of_wp_marks Try.func54 rfl trivial ?_ rfl
      simp only [Try.ntmps54, List.size_toArray, List.length_cons, List.length_nil, Nat.reduceAdd, Nat.reduceSub, Array.replicate_succ, Array.replicate_zero, List.push_toArray, List.append_toArray, List.nil_append, List.cons_append]
      gi_wp2_with fail
      refine ⟨trivial, (callsIn_wide.2 HR.out).mono ?_⟩
      rintro E w' ⟨rfl, rfl⟩
      rw [hk]
      gi_wp2_with fail
      refine ⟨trivial, (callsIn_wide.2 HF.out).mono ?_⟩
      rintro E w' ⟨rfl, rfl⟩
      gi_wp2
      obtain ⟨b6, c6⟩ := HE.out 2
      refine ⟨.int .i64 2, ?_, rfl, PStep.same HK.out b6⟩
      simp [results, Try.results54, go_sem, c6]
    · rw [if_neg (by simp)]
      obtain ⟨f, hf, rfl⟩ := inF_nat hin
      rw [Int.toNat_natCast, wrt_pieces]
      exact wgo_any p F w st f hf vb bs h hon hb hbF hLm hw hl hc

end Go.Proofs.Ytkpnkknolobioaa

/- The program's Has and Write of sections (layer 19). -/
namespace Go.Proofs.Ytkpnkknolobioaa
open Go.RowKit
set_option linter.unusedVariables false

set_option maxRecDepth 20000 in
set_option maxHeartbeats 8000000 in
theorem pohas_any (vb : Value) (bs : List Int) (e n : Int) (w : World) (hb : Is .u8 w vb bs) (hl : bs.length ≤ 1000000000) (l : List Orp.Se) (hs : Orp.Sn 0 bs l) :
    Calls Try.prog 11 #[vb, .int .i64 e, .int .i64 n] w fun E w' => E = .returned (.bool (Orp.has l e n)) ∧ Below w.heap.size w w' := by
  have SC := hide (poscan_any vb bs w hb hl)
  obtain ⟨ao, cap, hvb, _, _⟩ := hb.shape
  rw [hvb] at SC
  subst hvb
  have HS := hide hs
  clear hb hs
  go_enter Try.func11, Try.ntmps11
  go_wp2_with fail
  refine SC.out.mono ?_
  rintro E w2 ⟨v, sl, n2, rfl, H2⟩
  have hsl : sws sl = l := Orp.sn_one H2.out.2.2.2.1 HS.out
  subst hsl
  obtain ⟨oa, ok, hv, _, _⟩ := H2.out.1.is.shape
  have B2 := hide H2.out.2.2.2.2
  have LN : Hid (sl.length ≤ 1000000000) := hide (by
    have h1 := Orp.secs_len (sws sl)
    have h2 := H2.out.2.2.2.1.2.1.length_le
    rw [sws_len] at h1
    omega)
  have SEC : Hid (∀ i, i < sl.length → ∃ b off, v = .slice (some ⟨b, off, none⟩) sl.length ok ∧ ∃ x xa xk, sl[i]? = some x ∧ x.v = .slice xa x.rs.length xk ∧ (∀ W, Below w2.heap.size w2 W → W.cell? ⟨b, off + i * 3, none⟩ = some (.int .i64 x.e) ∧ W.cell? ⟨b, off + i * 3 + 1, none⟩ = some (.int .i64 x.f) ∧ W.cell? ⟨b, off + i * 3 + 2, none⟩ = some (.slice xa x.rs.length xk)) ∧ IsC w2 x.v x.rs ∧ x.rs.length ≤ 140737488351232) := hide fun i hi => by
    obtain ⟨b, off, cap2, hv2, _, _, hb2, hcell⟩ := H2.out.1.is.full (by omega)
    rw [hv] at hv2
    simp only [Value.slice.injEq, true_and] at hv2
    obtain ⟨rfl, rfl⟩ := hv2
    obtain ⟨x, hx⟩ : ∃ x, sl[i]? = some x := ⟨sl[i], List.getElem?_eq_getElem hi⟩
    have hm := List.mem_of_getElem? hx
    have hc := (H2.out.1.is.2 x hm).1
    obtain ⟨xa, xk, hxv, _, _⟩ := hc.1.shape
    obtain ⟨h0, h1, h2⟩ := hcell i x hx
    rw [hxv] at h2
    exact ⟨b, off, hv, x, xa, xk, hx, hxv, fun W hW => ⟨(hW.cell (p := ⟨b, off + i * 3, none⟩) hb2).trans h0, (hW.cell (p := ⟨b, off + i * 3 + 1, none⟩) hb2).trans h1, (hW.cell (p := ⟨b, off + i * 3 + 2, none⟩) hb2).trans h2⟩, hc, by have := (H2.out.2.1 x hm).2; omega⟩
  rw [hv] at SEC
  subst hv
  clear SC H2 HS
  have hln := LN.out
  go_wp2
  go_loopw [20] (fun iv wr => ∃ i : Nat, i ≤ sl.length ∧ iv = .int .i64 i ∧ Hid (Orp.has (sws (sl.take i)) e n = false) ∧ Hid (Below w2.heap.size w2 wr)) (fun iv _ => sl.length - (intOf iv).toNat)
  case atStart => exact ⟨0, by omega, rfl, hide (by simp [sws, Orp.has]), hide (Below.refl _ _)⟩
  case round =>
    obtain ⟨i, hi, rfl, HF, BR⟩ := hrel
    by_cases hlt : i < sl.length
    · obtain ⟨b, off, hvx, x, xa, xk, hx, hxv, dd, hic, hxl⟩ := SEC.out i hlt
      obtain ⟨d0, d1, d2⟩ := dd wr BR.out
      simp only [Value.slice.injEq, and_true] at hvx
      have hlt' : (i : Int) < sl.length := by omega
      have hi0 : (0 : Int) ≤ (i : Int) := by omega
      have NX := hide (has_next hx e n)
      have CC : Hid (∀ k W, k < x.rs.length → Below w2.heap.size w2 W → ∃ b2 off2, xa = some ⟨b2, off2, none⟩ ∧ ∃ c, x.rs[k]? = some c ∧ W.cell? ⟨b2, off2 + k * 3, none⟩ = some (.int .i64 c.e) ∧ W.cell? ⟨b2, off2 + k * 3 + 1, none⟩ = some (.int .i64 c.n) ∧ W.cell? ⟨b2, off2 + k * 3 + 2, none⟩ = some c.v ∧ ∃ a n k, c.v = .slice a n k) := hide fun k W hk hW => by
        obtain ⟨b2, off2, cap2, hv2, _, _, hb2, hcell⟩ := hic.1.full (by omega)
        rw [hxv] at hv2
        simp only [Value.slice.injEq, true_and] at hv2
        obtain ⟨c, hc⟩ : ∃ c, x.rs[k]? = some c := ⟨x.rs[k], List.getElem?_eq_getElem hk⟩
        obtain ⟨k0, k1, k2⟩ := hcell k c hc
        obtain ⟨ca, ck, hcv, _, _⟩ := ((hic.2 c (List.mem_of_getElem? hc)).1).shape
        exact ⟨b2, off2, hv2.1, c, hc, (hW.cell (p := ⟨b2, off2 + k * 3, none⟩) hb2).trans k0, (hW.cell (p := ⟨b2, off2 + k * 3 + 1, none⟩) hb2).trans k1, (hW.cell (p := ⟨b2, off2 + k * 3 + 2, none⟩) hb2).trans k2, ca, _, ck, hcv⟩
      obtain ⟨wb, hwb, hwb', szb, belb, bb, y0, y1, y2⟩ := new_step wr 24 (.int .i64 0) (.int .i64 0) (.slice none 0 0) (.int .i64 x.e) (.int .i64 x.f) (.slice xa x.rs.length xk)
      have BRB := hide (BR.out.trans (belb.mono BR.out.size))
      subst hvx
      clear hic hxv hx dd bb belb szb
      go_wp2
      obtain ⟨wo, hwo⟩ : ∃ y, y = wr := ⟨_, rfl⟩
      subst hwo
      go_loopw [27] (fun kv wq => ∃ k : Nat, k ≤ x.rs.length ∧ kv = .int .i64 k ∧ Hid (hasC (x.rs.take k) e n = false) ∧ Hid (Below w2.heap.size w2 wq)) (fun kv _ => x.rs.length - (intOf kv).toNat)
      case atStart => exact ⟨0, by omega, rfl, hide (by simp [hasC, cvs]), BRB⟩
      case round =>
        obtain ⟨k, hk, rfl, HK, BK⟩ := hrel
        by_cases hkl : k < x.rs.length
        · obtain ⟨b2, off2, hxa, c, hc, k0, k1, k2, ca, cn, ck, hcv⟩ := CC.out k wr hkl BK.out
          obtain ⟨wd, hwd, hwd', szd, beld, bd, z0, z1, z2⟩ := new_step wr 32 (.int .i64 0) (.int .i64 0) (.slice none 0 0) (.int .i64 c.e) (.int .i64 c.n) c.v
          have BD := hide (BK.out.trans (beld.mono BK.out.size))
          rw [hcv] at hwd hwd' z2 k2
          clear beld bd szd hcv
          have hkl' : (k : Int) < x.rs.length := by omega
          have hk0 : (0 : Int) ≤ (k : Int) := by omega
          have NC := hide (hasC_next hc e n)
          subst hxa
          by_cases q1 : c.e = e
          · by_cases q2 : c.n = n
            · have YES : Hid (Orp.has (sws sl) e n = true) := hide (by
                refine has_yes (k := i + 1) ?_
                rw [NX.out, hasC_yes (k := k + 1) (by rw [NC.out]; simp [q1, q2])]
                simp)
              have t1 : (c.e == e) = true := by simp [q1]
              have t2 : (c.n == n) = true := by simp [q2]
              clear q1 q2 NC NX CC SEC HF HK hc BK BR
              go_wp2
              go_ret
              exact ⟨by rw [YES.out]; rfl, B2.out.trans (BD.out.mono B2.out.size)⟩
            · have NO : Hid (hasC (x.rs.take (k + 1)) e n = false) := hide (by rw [NC.out, HK.out]; simp [q2])
              have t1 : (c.e == e) = true := by simp [q1]
              have t2 : (c.n == n) = false := by simp [q2]
              clear q1 q2 NC hc
              go_wp2
              go_roundw
              case rel => exact ⟨k + 1, by omega, by go_num, NO, BD⟩
              case measure => simp [intOf]; omega
          · have NO : Hid (hasC (x.rs.take (k + 1)) e n = false) := hide (by rw [NC.out, HK.out]; simp [q1])
            have t1 : (c.e == e) = false := by simp [q1]
            clear q1 NC hc
            go_wp2
            go_roundw
            case rel => exact ⟨k + 1, by omega, by go_num, NO, BD⟩
            case measure => simp [intOf]; omega
        · have hkl' : ¬ (k : Int) < x.rs.length := by omega
          have NO : Hid (Orp.has (sws (sl.take (i + 1))) e n = false) := hide (by
            have := HK.out
            rw [List.take_of_length_le (by omega)] at this
            rw [NX.out, HF.out, this]
            rfl)
          go_wp2
          go_roundw
          case rel => exact ⟨i + 1, by omega, by go_num, NO, BK⟩
          case measure => simp [intOf]; omega
    · have hlt' : ¬ (i : Int) < sl.length := by omega
      have NO : Hid (Orp.has (sws sl) e n = false) := hide (by
        have := HF.out
        rw [List.take_of_length_le (by omega)] at this
        exact this)
      go_wp2
      go_ret
      exact ⟨by rw [NO.out]; rfl, B2.out.trans (BR.out.mono B2.out.size)⟩

set_option maxRecDepth 20000 in
set_option maxHeartbeats 8000000 in
theorem powrite_any (p : Nat) (F : Nat → Prop) (w : World) (st : Dm.Ds) (base e f : Int) (v : Value) (rs : List Cw) (hc : ∀ W, Out F w W → IsC W v rs) (hf : FitC rs) (hl : rs.length ≤ 2000) (h : Pk p F w st) (t u : Nat) (hB : Big t u st) (ht : t ≤ 100000000000) (hu : u + 20000 ≤ 1000000) :
    Calls Try.prog 30 #[.pointer (some ⟨p, 0, none⟩), .int .i64 base, cmv e f v] w fun E w' => E = .returned (.int .i64 (Orp.wrS st base ⟨e, f, cvs rs⟩).1) ∧ PStep p F w w' (Orp.wrS st base ⟨e, f, cvs rs⟩).2 := by
  unfold cmv
  obtain ⟨w1, hw1, sz1, bel1, hBx⟩ := blk_step w #[.int .i64 e, .int .i64 f, v] 24
  obtain ⟨s, hs⟩ : ∃ s : Orp.Se, ⟨e, f, cvs rs⟩ = s := ⟨_, rfl⟩
  have D1 := hide (h.below bel1)
  have FLT : Hid (∀ g, F g → g < w.heap.size) := hide h.lt
  have RD := hide (dread_any p F w1 st 3 D1.out (fun f => by have := hB.1.1 f; omega) (by have := hB.1.2.1; omega))
  have EN : Hid (∀ W, Below w.heap.size w W → Calls Try.prog 15 #[cmv e f v] W fun E w' => ∃ vb, E = .returned (.tuple #[vb, .int .i64 (Orp.chk ⟨e, f, cvs rs⟩)]) ∧ Own .u8 5 W.heap.size w' vb (Orp.out ⟨e, f, cvs rs⟩) ∧ Below W.heap.size W w') := hide fun W hW => poenc_any e f v rs W (hc W (Out.of_below hW)) hf (by omega)
  unfold cmv at EN
  rw [hs] at EN ⊢
  obtain ⟨rr, hrr⟩ : ∃ x, Orp.wrS st base s = x := ⟨_, rfl⟩
  rw [hrr]
  have HRR := hide hrr
  have hsl : s.cs.length = rs.length := by rw [← hs]; exact cvs_many rs
  obtain ⟨va, vk, hv, _, _⟩ := (hc w (Out.refl _ _)).1.shape
  have B1 := hide bel1
  have HBX := hide hBx
  rw [hv] at hw1 EN HBX
  subst hv
  clear hc hf h bel1 hBx hs hrr
  cases hon : st.on with
  | false =>
    rw [show rdE st 3 = 6 by unfold rdE; rw [if_pos hon]] at RD
    have HR := hide (HRR.out.symm.trans (Orp.wrS_off hon))
    clear hon EN HBX
    go_enter Try.func30, Try.ntmps30
    go_wp2_with fail
    refine RD.out.mono ?_
    rintro E w2 ⟨vh, rfl, ownh, bel2⟩
    have FIN : Hid (PStep p F w w2 st) := hide (PStep.pre B1.out (PStep.same D1.out bel2))
    obtain ⟨ha, hk, hvh, _, _⟩ := ownh.is.shape
    subst hvh
    clear RD D1 ownh bel2
    go_wp2
    go_ret
    rw [HR.out]
    exact ⟨rfl, FIN.out⟩
  | true =>
  rw [show rdE st 3 = 0 by unfold rdE; rw [if_neg (by simp [hon]), if_neg (by decide)], show rdB st 3 = Orp.hl st by unfold rdB; rw [if_neg (by simp [hon]), if_neg (by decide)]; rfl] at RD
  have HON := hide hon
  clear hon
  obtain ⟨ck, hck⟩ : ∃ z, Orp.chk s = z := ⟨_, rfl⟩
  rw [hck] at EN
  have HCK := hide hck
  clear hck
  go_enter Try.func30, Try.ntmps30
  go_wp2_with fail
  refine RD.out.mono ?_
  rintro E w2 ⟨vh, rfl, ownh, bel2⟩
  obtain ⟨ha, hk, hvh, _, _⟩ := ownh.is.shape
  obtain ⟨nh, hnh⟩ : ∃ z, (Orp.hl st).length = z := ⟨_, rfl⟩
  rw [hnh] at hvh
  have hnb : nh ≤ 100000000000 := by rw [← hnh]; have := Dm.hold_len st.wait (st.sure 3) 3; have := hB.1.1 3; unfold Orp.hl; omega
  have D2 := hide (D1.out.below bel2)
  have B2 := hide (B1.out.trans (bel2.mono B1.out.size))
  have hB2 := (bel2.block _ (blk_lt HBX.out)).trans HBX.out
  have k0 := blk_cell hB2 0 rfl
  have k1 := blk_cell hB2 1 rfl
  have k2 := blk_cell hB2 2 rfl
  simp only [List.getElem_toArray, List.getElem_cons_zero, List.getElem_cons_succ] at k0 k1 k2
  have EN2 := hide (EN.out w2 B2.out)
  have HNH := hide hnh
  have s2 := B2.out.size
  subst hvh
  clear RD ownh bel2 hnh EN D1 B1 HBX hB2
  go_wp2_with fail
  refine EN2.out.mono ?_
  rintro E w3 ⟨vb, rfl, ownb, bel3⟩
  have D3 := hide (D2.out.below bel3)
  have B3 := hide (B2.out.trans (bel3.mono B2.out.size))
  obtain ⟨xa, xn, xk, hvb⟩ := ownb.is.form
  clear EN2 k0 k1 k2
  by_cases hc0 : ck = 0
  · subst hc0
    rw [Orp.out_ok HCK.out] at ownb
    have hlb : (Orp.sec s).length ≤ 900000 := by have := Orp.sec_le HCK.out; omega
    have OB3 := hide ownb
    have VB : Hid (∀ g, vb.ownBlock = some g → w.heap.size ≤ g ∧ g < w3.heap.size) := hide fun g hg => by have := ownb.block g hg; omega
    have hcn : cnt (Orp.sec s).length ≤ 14063 := by unfold cnt; omega
    rw [hvb] at OB3 VB
    subst hvb
    clear ownb bel3 D2 B2
    by_cases hbad : base < 0 ∨ (nh : Int) < base
    · have HR := hide (HRR.out.symm.trans (Orp.wrS_arg HON.out HCK.out (by rw [HNH.out]; exact hbad)))
      have FIN : Hid (PStep p F w w3 st) := hide (PStep.pre B3.out (PStep.same D3.out (Below.refl _ _)))
      by_cases hb0 : base < 0
      · clear hbad
        go_wp2
        go_ret
        rw [HR.out]
        exact ⟨rfl, FIN.out⟩
      · have hb1 : (nh : Int) < base := by omega
        clear hbad
        go_wp2
        go_ret
        rw [HR.out]
        exact ⟨rfl, FIN.out⟩
    have hb0 : ¬ base < 0 := by omega
    have hb1 : ¬ (nh : Int) < base := by omega
    have HW1 := hide (HRR.out.symm.trans (Orp.wrS_go HON.out HCK.out (by rw [HNH.out]; exact hbad)))
    clear hbad
    by_cases hcut : base < nh
    · have CU := hide (cut_any p F w3 st 3 base D3.out (fun f => by have := hB.1.1 f; omega) (by have := hB.1.2.1; omega) hB.2 (by have := hB.1.2.2; omega))
      have hbB := big_cut hB 3 base
      have C6 := hide (cut3_e (st := st) (n := base) HON.out (by omega) (by rw [HNH.out]; omega))
      obtain ⟨⟨e4, st4⟩, h4⟩ : ∃ x, Dm.cutD st 3 base = x := ⟨_, rfl⟩
      have H4 := hide h4
      rw [h4] at CU hbB C6
      simp only at CU hbB C6
      clear h4
      go_wp2_with fail
      refine CU.out.mono ?_
      rintro E w4 ⟨rfl, F4, D4', O4, S4⟩
      have D4 := hide D4'
      have OUT4 : Hid (Out F w w4 ∧ ∀ g, F4 g → F g ∨ w3.heap.size ≤ g) := hide ⟨(Out.of_below B3.out).trans O4 (fun g hg => .inl hg), S4⟩
      have IB4 : Hid (Is .u8 w4 (.slice xa xn xk) (Orp.sec s)) := hide (OB3.out.is.agree fun g hg => O4.block g (by have := VB.out g hg; omega) fun hF => by have := VB.out g hg; have := FLT.out g hF; omega)
      have NF4 : Hid (∀ g, (Value.slice xa xn xk).ownBlock = some g → ¬ F4 g) := hide fun g hg hF => by
        have q := VB.out g hg
        rcases S4 g hF with q2 | q2
        · have := FLT.out g q2; omega
        · omega
      clear CU D4' O4 S4 D3
      by_cases he4 : e4 = 0
      · subst he4
        have hW : Orp.wr1 st base s = Orp.wr2 st4 s := by rw [wr1_cut (by rw [HNH.out]; exact hcut) (by rw [H4.out]), H4.out]
        have HW := hide (HW1.out.trans hW)
        have hBc : Big t (u + 1) st4 := hbB
        clear hW hcut hbB
        have WR := hide (write_any p F4 w4 st4 3 (.slice xa xn xk) (Orp.sec s) D4.out IB4.out (fun _ => NF4.out) (by omega) (by have := hBc.1.2.1; omega) hBc.2 (by have := hBc.1.2.2; omega))
        have hB5 := big_write hBc 3 (Orp.sec s)
        have E1 := hide (fun h => wr2_e1 (st := st4) (s := s) h)
        have E2 := hide (fun h q => wr2_e2 (st := st4) (s := s) h q)
        have E3 := hide (fun h q => wr2_e3 (st := st4) (s := s) h q)
        have W6 := hide (write3_e (st := st4) (Orp.sec s))
        obtain ⟨⟨e5, st5⟩, h5⟩ : ∃ x, Dm.write st4 3 (Orp.sec s) = x := ⟨_, rfl⟩
        rw [h5] at WR hB5 E1 E2 E3 W6
        simp only at WR hB5 E1 E2 E3 W6
        rw [← HW.out] at E1 E2 E3
        clear h5 IB4 NF4
        go_wp2_with fail
        refine WR.out.mono ?_
        rintro E w5 ⟨rfl, F5, D5', O5, S5⟩
        have D5 := hide D5'
        have OUT5 : Hid (Out F w w5 ∧ ∀ g, F5 g → F g ∨ w.heap.size ≤ g) := hide ⟨OUT4.out.1.trans O5 (fun g hg => (OUT4.out.2 g hg).imp_right fun q => Nat.le_trans B3.out.size q), fun g hg => by
          rcases S5 g hg with q | q
          · exact (OUT4.out.2 g q).imp_right fun q => Nat.le_trans B3.out.size q
          · exact .inr (Nat.le_trans OUT4.out.1.size q)⟩
        clear WR D5' O5 S5 D4 OUT4
        by_cases he5 : e5 = 0
        · subst he5
          have SY := hide (sync_any p F5 w5 st5 D5.out (fun f => by have := hB5.1.1 f; omega) (by have := hB5.1.2.1; omega) hB5.2 (by have := hB5.1.2.2; omega))
          have Y6 := hide (sync3_e st5)
          obtain ⟨⟨e6, st6⟩, h6⟩ : ∃ x, Dm.sync st5 = x := ⟨_, rfl⟩
          rw [h6] at SY E2 E3 Y6
          simp only at SY E2 E3 Y6
          clear h6
          go_wp2_with fail
          refine SY.out.mono ?_
          rintro E w6 ⟨rfl, F6, D6', O6, S6⟩
          have FIN : Hid (PStep p F w w6 st6) := hide ⟨F6, D6', OUT5.out.1.trans O6 OUT5.out.2, fun g hg => by
            rcases S6 g hg with q | q
            · exact OUT5.out.2 g q
            · exact .inr (Nat.le_trans OUT5.out.1.size q)⟩
          clear SY D6' O6 S6 D5 OUT5
          by_cases he6 : e6 = 0
          · subst he6
            have HR := hide (E3.out (by trivial) (by trivial))
            clear E1 E2 E3
            go_wp2
            go_ret
            rw [HR.out]
            exact ⟨rfl, FIN.out⟩
          · obtain rfl : e6 = 6 := Y6.out.resolve_left he6
            have HR := hide (E2.out (by trivial) (by decide))
            clear E1 E2 E3
            go_wp2
            go_ret
            rw [HR.out]
            exact ⟨rfl, FIN.out⟩
        · obtain rfl : e5 = 6 := W6.out.resolve_left he5
          have HR := hide (E1.out (by decide))
          have FIN : Hid (PStep p F w w5 st5) := hide ⟨F5, D5.out, OUT5.out.1, OUT5.out.2⟩
          clear E1 E2 E3
          go_wp2
          go_ret
          rw [HR.out]
          exact ⟨rfl, FIN.out⟩
      · obtain rfl : e4 = 6 := C6.out.resolve_left he4
        have hW : Orp.wr1 st base s = (6, st4) := by rw [wr1_no (by rw [HNH.out]; exact hcut) (by rw [H4.out]; simp), H4.out]
        have HR := hide (HW1.out.trans hW)
        have FIN : Hid (PStep p F w w4 st4) := hide ⟨F4, D4.out, OUT4.out.1, fun g hg => (OUT4.out.2 g hg).imp_right fun q => Nat.le_trans B3.out.size q⟩
        clear hW
        go_wp2
        go_ret
        rw [HR.out]
        exact ⟨rfl, FIN.out⟩
    · have hW : Orp.wr1 st base s = Orp.wr2 st s := wr1_all (by rw [HNH.out]; exact hcut)
      have HW := hide (HW1.out.trans hW)
      obtain ⟨st4, hst4⟩ : ∃ x, st = x := ⟨_, rfl⟩
      obtain ⟨w4, hw4⟩ : ∃ x, w3 = x := ⟨_, rfl⟩
      obtain ⟨F4, hF4⟩ : ∃ x, F = x := ⟨_, rfl⟩
      have hBc : Big t (u + 1) st4 := by rw [← hst4]; exact hB.mono (Nat.le_refl _) (by omega)
      have D4 : Hid (Pk p F4 w4 st4) := by rw [← hst4, ← hw4, ← hF4]; exact D3
      have OUT4 : Hid (Out F w w4 ∧ ∀ g, F4 g → F g ∨ w3.heap.size ≤ g) := hide ⟨by rw [← hw4]; exact Out.of_below B3.out, fun g hg => .inl (by rw [hF4]; exact hg)⟩
      have IB4 : Hid (Is .u8 w4 (.slice xa xn xk) (Orp.sec s)) := hide (by rw [← hw4]; exact OB3.out.is)
      have NF4 : Hid (∀ g, (Value.slice xa xn xk).ownBlock = some g → ¬ F4 g) := hide fun g hg hF => by
        have q := VB.out g hg
        rw [← hF4] at hF
        have := FLT.out g hF
        omega
      rw [hst4] at HW
      rw [hw4]
      clear hW D3 hst4 hw4 hF4
      have WR := hide (write_any p F4 w4 st4 3 (.slice xa xn xk) (Orp.sec s) D4.out IB4.out (fun _ => NF4.out) (by omega) (by have := hBc.1.2.1; omega) hBc.2 (by have := hBc.1.2.2; omega))
      have hB5 := big_write hBc 3 (Orp.sec s)
      have E1 := hide (fun h => wr2_e1 (st := st4) (s := s) h)
      have E2 := hide (fun h q => wr2_e2 (st := st4) (s := s) h q)
      have E3 := hide (fun h q => wr2_e3 (st := st4) (s := s) h q)
      have W6 := hide (write3_e (st := st4) (Orp.sec s))
      obtain ⟨⟨e5, st5⟩, h5⟩ : ∃ x, Dm.write st4 3 (Orp.sec s) = x := ⟨_, rfl⟩
      rw [h5] at WR hB5 E1 E2 E3 W6
      simp only at WR hB5 E1 E2 E3 W6
      rw [← HW.out] at E1 E2 E3
      clear h5 IB4 NF4
      go_wp2_with fail
      refine WR.out.mono ?_
      rintro E w5 ⟨rfl, F5, D5', O5, S5⟩
      have D5 := hide D5'
      have OUT5 : Hid (Out F w w5 ∧ ∀ g, F5 g → F g ∨ w.heap.size ≤ g) := hide ⟨OUT4.out.1.trans O5 (fun g hg => (OUT4.out.2 g hg).imp_right fun q => Nat.le_trans B3.out.size q), fun g hg => by
        rcases S5 g hg with q | q
        · exact (OUT4.out.2 g q).imp_right fun q => Nat.le_trans B3.out.size q
        · exact .inr (Nat.le_trans OUT4.out.1.size q)⟩
      clear WR D5' O5 S5 D4 OUT4
      by_cases he5 : e5 = 0
      · subst he5
        have SY := hide (sync_any p F5 w5 st5 D5.out (fun f => by have := hB5.1.1 f; omega) (by have := hB5.1.2.1; omega) hB5.2 (by have := hB5.1.2.2; omega))
        have Y6 := hide (sync3_e st5)
        obtain ⟨⟨e6, st6⟩, h6⟩ : ∃ x, Dm.sync st5 = x := ⟨_, rfl⟩
        rw [h6] at SY E2 E3 Y6
        simp only at SY E2 E3 Y6
        clear h6
        go_wp2_with fail
        refine SY.out.mono ?_
        rintro E w6 ⟨rfl, F6, D6', O6, S6⟩
        have FIN : Hid (PStep p F w w6 st6) := hide ⟨F6, D6', OUT5.out.1.trans O6 OUT5.out.2, fun g hg => by
          rcases S6 g hg with q | q
          · exact OUT5.out.2 g q
          · exact .inr (Nat.le_trans OUT5.out.1.size q)⟩
        clear SY D6' O6 S6 D5 OUT5
        by_cases he6 : e6 = 0
        · subst he6
          have HR := hide (E3.out (by trivial) (by trivial))
          clear E1 E2 E3
          go_wp2
          go_ret
          rw [HR.out]
          exact ⟨rfl, FIN.out⟩
        · obtain rfl : e6 = 6 := Y6.out.resolve_left he6
          have HR := hide (E2.out (by trivial) (by decide))
          clear E1 E2 E3
          go_wp2
          go_ret
          rw [HR.out]
          exact ⟨rfl, FIN.out⟩
      · obtain rfl : e5 = 6 := W6.out.resolve_left he5
        have HR := hide (E1.out (by decide))
        have FIN : Hid (PStep p F w w5 st5) := hide ⟨F5, D5.out, OUT5.out.1, OUT5.out.2⟩
        clear E1 E2 E3
        go_wp2
        go_ret
        rw [HR.out]
        exact ⟨rfl, FIN.out⟩
  · have hcb : (ck != 0) = true := by simp [hc0]
    have HR := hide (HRR.out.symm.trans (Orp.wrS_chk HON.out (by rw [HCK.out]; exact hc0)))
    rw [HCK.out] at HR
    have FIN : Hid (PStep p F w w3 st) := hide (PStep.pre B3.out (PStep.same D3.out (Below.refl _ _)))
    subst hvb
    clear ownb
    go_wp2
    go_ret
    rw [HR.out]
    exact ⟨rfl, FIN.out⟩

end Go.Proofs.Ytkpnkknolobioaa

/- The statement's put, example and lives (layer 19). -/
namespace Go.Proofs.Ytkpnkknolobioaa
open Go.RowKit
set_option linter.unusedVariables false

def exO : Bm.Ov := ⟨true, ⟨#[97]⟩, ⟨#[49]⟩⟩
/-- The chapter's section, and its bytes. -/
def exSe : Orp.Se := ⟨2, 1, [⟨1, 2, [exO]⟩]⟩
def exBy : List Int := [3, 2, 1, 1, 9, 1, 2, 1, 1, 0, 1, 97, 1, 49]

theorem exO_good : Bm.chkL [exO] = 0 := by decide
theorem exC_good {e n : Int} (h : 1 ≤ e ∧ e ≤ 1048576 ∧ 1 ≤ n ∧ n ≤ 1048576) : Cm.chk e n [exO] = 0 := by rw [Cm.chk_in h, exO_good]
theorem exSe_ok : Orp.chk exSe = 0 := by
  refine Orp.chk_ok (by simp [exSe]) ?_ (by simp [exSe, Cm.lastE])
  rw [Cm.fol_good]
  exact ⟨exC_good (by decide), by decide, by decide, trivial⟩
theorem exSe_by : Orp.sec exSe = exBy := by
  simp [Orp.sec, Orp.hdr, exSe, Fm.frm, Wl.lgb, Fm.cat, Wl.rec, Cm.encC, exO, exBy, Bm.encB, Bm.encL, Bm.encO, Bm.pre4, Bm.com, Bm.Ov.kl, Bm.Ov.vl, Bm.Ov.bit, Vm.enc_lo, Om.ints, Om.cnt]
theorem exSe_out : Orp.out exSe = exBy := by rw [Orp.out_ok exSe_ok, exSe_by]

/-- No section begins with three numbers that name no commit of theirs that follows. -/
theorem ex_none : ∀ t, Orp.chk t = 0 → ¬ Orp.sec t <+: [3, 3, 1, 1] := fun t ht hp => by
  have h1 := hp.length_le
  unfold Orp.sec at h1 hp
  rw [Bm.pre_app] at hp
  have h2 := Fm.frm_pre hp.1
  have h3 : Fm.frm [3, 1, 1] <+: [3, 3, 1, 1] := by simp [Fm.frm, Vm.enc_lo]
  have e := Fm.frm_one hp.1 h3
  obtain ⟨k1, k2, k3, k4, k5, k6, _⟩ := Orp.chk_zero ht
  have h4 : 1 ≤ (Wl.lgb t.cs).length := Nat.le_trans k5 (Wl.lgb_len t.cs)
  rw [List.length_append, e] at h1
  simp [Fm.frm, Vm.enc_lo] at h1
  omega

theorem ex_scan : Orp.Sn 0 (exBy ++ [3, 3, 1, 1]) [exSe] := by
  refine ⟨⟨exSe_ok, by decide, trivial⟩, by rw [Orp.secs_one, exSe_by]; exact List.prefix_append _ _, fun t ht hp => ?_⟩
  rw [Orp.secs_one, exSe_by, List.drop_left] at hp
  exact ex_none t ht.1 hp
theorem ex_scan1 : Orp.Sn 0 exBy [exSe] := by
  have := Orp.sn_self (a := 0) (l := [exSe]) ⟨exSe_ok, by decide, trivial⟩
  rwa [Orp.secs_one, exSe_by] at this

theorem put19_any (e n : Int) (w : World) :
    Calls Try.prog 9 #[.int .i64 e, .int .i64 n] w fun E w' => ∃ a k, E = .returned (.agg #[.int .i64 e, .int .i64 n, .slice a 1 k]) ∧ OwnO 66 w.heap.size w' (.slice a 1 k) [exO] ∧ Below w.heap.size w w' := by
  obtain ⟨w1, hw1, sz1, bel1, hR⟩ := blk_step w #[.int .i64 0, .int .i64 0, .slice none 0 0] 32
  obtain ⟨w2, hw2, sz2, bel2, own2⟩ := ops_step 66 w1 #[.bool true, .string ⟨#[97]⟩, .string ⟨#[49]⟩] 1 [exO] rfl rfl (by simp [maxLen])
  have hR2 := (bel2.block w.heap.size (by omega)).trans hR
  have bel02 : Below w.heap.size w w2 := bel1.trans (bel2.mono (by omega))
  rw [sz1] at own2
  obtain ⟨V', hV', bV', gV', ⟨a0, a1, a2⟩, ⟨f0, f1, f2⟩, ⟨z0, z1, z2⟩⟩ := res_step hR2 (.int .i64 e) (.int .i64 n) (.slice (some ⟨w.heap.size + 1, 0, none⟩) 1 1)
  have belV' := below_put bel02 gV' (Nat.le_refl _) (by omega)
  have ownV' := (own2.keptg gV' (by omega)).rebase (base' := w.heap.size) (by omega)
  clear hR hR2 bel1 bel2 own2 bV' gV' bel02
  go_enter Try.func9, Try.ntmps9
  go_wp2
  refine bodyPost_ret (v := .agg #[.int .i64 e, .int .i64 n, .slice (some ⟨w.heap.size + 1, 0, none⟩) 1 1]) (by simp [results, Try.results9, go_sem, z0, z1, z2]) rfl ?_
  exact ⟨_, _, rfl, ownV', belV'⟩

/-- A list of one commit of one put, made here. -/
theorem one_com (e n : Int) (he : In64 e) (hn : In64 n) {W w2 : World} {a : Option Addr} {k : Nat} (hw : Below W.heap.size W w2) (ho : OwnO 66 W.heap.size w2 (.slice a 1 k) [exO]) :
    ∃ V, w2.alloc (.cells #[.int .i64 e, .int .i64 n, .slice a 1 k] 32) = V ∧ V.heap.size = w2.heap.size + 1 ∧ Below W.heap.size W V ∧ ShS W.heap.size V (.slice (some ⟨w2.heap.size, 0, none⟩) 1 1) [⟨e, n, .slice a 1 k, [exO]⟩] := by
  obtain ⟨V, hV, szV, belV, ownV⟩ := coms_step 32 w2 #[.int .i64 e, .int .i64 n, .slice a 1 k] 1 [⟨e, n, .slice a 1 k, [exO]⟩] rfl rfl (by simp [maxLen])
  have m := hw.size
  refine ⟨V, hV, szV, hw.trans (belV.mono m), row_rebase ownV m, fun c hc => ?_, fun c hc => ?_, fun i j c d hij hc hd => ?_, fun c hc => ?_⟩
  · rw [List.mem_singleton.1 hc]; exact ho.below belV
  · rw [List.mem_singleton.1 hc]; exact ⟨he, hn⟩
  · have h1 := (List.getElem?_eq_some_iff.1 hc).1
    have h2 := (List.getElem?_eq_some_iff.1 hd).1
    simp at h1 h2
    omega
  · rw [List.mem_singleton.1 hc]
    refine ⟨fun o ho => ?_, by simp⟩
    rw [List.mem_singleton.1 ho]
    exact ⟨by decide, by decide⟩

end Go.Proofs.Ytkpnkknolobioaa

/- The statement's example and lives (layer 19). -/
namespace Go.Proofs.Ytkpnkknolobioaa
open Go.RowKit
set_option linter.unusedVariables false

/-- The chapter's section in memory, and its bytes. -/
structure Exm (b : Nat) (w : World) (v vo vb : Value) : Prop where
  sh : ShS b w v [⟨1, 2, vo, [exO]⟩]
  by' : Own .u8 5 b w vb exBy

theorem Exm.below {b : Nat} {w w' : World} {v vo vb : Value} (h : Exm b w v vo vb) (hb : Below w.heap.size w w') : Exm b w' v vo vb := ⟨h.sh.below hb, h.by'.below hb⟩

set_option maxRecDepth 20000 in
set_option maxHeartbeats 2000000 in
theorem example19_any (w : World) :
    Calls Try.prog 7 #[] w fun E w' => ∃ g q vo, E = .returned (.tuple #[.agg #[.int .i64 2, .int .i64 1, .slice (some ⟨g, 0, none⟩) 1 1], .slice (some ⟨q, 0, none⟩) 14 14]) ∧ Hid (Exm w.heap.size w' (.slice (some ⟨g, 0, none⟩) 1 1) vo (.slice (some ⟨q, 0, none⟩) 14 14)) ∧ Below w.heap.size w w' := by
  obtain ⟨w1, hw1, sz1, bel1, hR⟩ := blk_step w #[.int .i64 0, .int .i64 0, .slice none 0 0] 24
  have P := hide (put19_any 1 2 w1)
  have HR := hide hR
  have B1 := hide bel1
  clear hR bel1
  go_enter Try.func7, Try.ntmps7
  go_wp2_with fail
  refine P.out.mono ?_
  rintro E w2 ⟨a, k, rfl, own2, bel2⟩
  obtain ⟨w3, hw3, sz3, bel3, sh3⟩ := one_com 1 2 (by simp [In64]) (by simp [In64]) bel2 own2
  obtain ⟨w4, hw4, sz4, bel4, own4⟩ := own_step .u8 5 w3 #[.int .u8 3, .int .u8 2, .int .u8 1, .int .u8 1, .int .u8 9, .int .u8 1, .int .u8 2, .int .u8 1, .int .u8 1, .int .u8 0, .int .u8 1, .int .u8 97, .int .u8 1, .int .u8 49] 14 exBy rfl rfl (by simp [maxLen]) (by decide)
  have bel14 : Below w1.heap.size w1 w4 := bel3.trans (bel4.mono bel3.size)
  have hR4 := (bel14.block w.heap.size (by omega)).trans HR.out
  obtain ⟨V, hV, bV, gV, ⟨a0, a1, a2⟩, ⟨f0, f1, f2⟩, ⟨z0, z1, z2⟩⟩ := res_step hR4 (.int .i64 2) (.int .i64 1) (.slice (some ⟨w2.heap.size, 0, none⟩) 1 1)
  have m2 := bel2.size
  have oV : Out (fun g => g = w.heap.size) w4 V := Out.of_grown gV fun g hg => by simp at hg; exact hg.symm
  have bel04 := B1.out.trans (bel14.mono (by omega))
  have EX : Hid (Exm w.heap.size V (.slice (some ⟨w2.heap.size, 0, none⟩) 1 1) (.slice a 1 k) (.slice (some ⟨w3.heap.size, 0, none⟩) 14 14)) := hide ⟨((sh3.below bel4).out oV (fun g hg => by omega)).rebase (by omega), (own4.agree (w' := V) fun b hb => gV.block b (by have := own4.block b hb; omega) (by have := own4.block b hb; simp; omega)).rebase (by omega)⟩
  have BV := hide (below_put bel04 gV (Nat.le_refl _) bel04.size)
  have hw4' := hw4
  clear P own2 sh3 own4 bel2 bel3 bel4 bel14 hR4 bV gV oV bel04 sz3 sz4
  go_wp2
  refine bodyPost_ret (v := .tuple #[.agg #[.int .i64 2, .int .i64 1, .slice (some ⟨w2.heap.size, 0, none⟩) 1 1], .slice (some ⟨w3.heap.size, 0, none⟩) 14 14]) (by simp [results, Try.results7, go_sem, z0, z1, z2]) rfl ?_
  exact ⟨_, _, _, rfl, EX, BV.out⟩

/-- An append to bytes that are full: new memory. -/
theorem append_full {w : World} {ao : Option Addr} {n : Nat} {zs ys : List Int} {vx : Value} (hz : Is .u8 w (.slice ao n n) zs) (hy : Is .u8 w vx ys) (h0 : 0 < zs.length) (h1 : 0 < ys.length) (hl : zs.length + ys.length ≤ 140737488355328) (ty : TypeId) :
    ∃ v' w', (Builtin.append_ #[25, 25] ty #[.slice ao n n, vx]).run Try.prog w = .ok v' w' ∧ (Own .u8 5 w.heap.size w' v' (zs ++ ys) ∧ Below w.heap.size w w') := by
  obtain ⟨i, hi, hz0, hsize, hb⟩ := info_parts Try.info5
  rcases hz.2 with ⟨_, e⟩ | ⟨ad, cap, hv, h2, h3, hc⟩
  · rw [e] at h0; simp at h0
  rcases hy.2 with ⟨_, e⟩ | ⟨bd, kap, hvx, k2, k3, kc⟩
  · rw [e] at h1; simp at h1
  simp only [Value.slice.injEq] at hv
  obtain ⟨rfl, rfl, rfl⟩ := hv
  subst hvx
  have cl : ∀ (q : Addr) (xs : List Int), (∀ i, i < xs.length → w.cell? (q.add i) = some (.int .u8 (xs.getD i 0))) → ∀ j u, (xs.map (Value.int .u8))[j]? = some u → w.cell? (q.add j) = some u := fun q xs hq j u hj => by
    rw [List.getElem?_map, Option.map_eq_some_iff] at hj
    obtain ⟨z, hz, rfl⟩ := hj
    obtain ⟨hjl, e⟩ := List.getElem?_eq_some_iff.1 hz
    rw [hq j hjl, List.getD_eq_getElem?_getD, List.getElem?_eq_getElem hjl, e]
    rfl
  obtain ⟨v', w', hr, r1, r2⟩ := run_append_arg_grows (P := Try.prog) w 25 ty 5 i (.int .u8 0) 1 1 Try.underlying25 hi hz0 hsize hb rfl (by decide) ad zs.length zs.length (zs.map (Value.int .u8)) (by simp) (cl ad zs hc) bd ys.length kap (ys.map (Value.int .u8)) (by simp) (cl bd ys kc) (by omega) (by unfold maxLen; omega) (by omega)
  refine ⟨v', w', hr, ⟨fun z hz' => ?_, ?_⟩, (Below.refl _ _).grown r2 (Nat.le_refl _) fun k hk => by simp at hk⟩
  · rcases List.mem_append.1 hz' with h | h
    · exact hz.1 z h
    · exact hy.1 z h
  · rw [List.length_append, List.map_append]
    exact r1

end Go.Proofs.Ytkpnkknolobioaa
