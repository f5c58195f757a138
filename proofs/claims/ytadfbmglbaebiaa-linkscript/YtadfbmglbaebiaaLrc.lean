/- The document's link: Deliver, Drop, Twice, Flight. -/
import Derived.Test.YtadfbmglbaebiaaLrb
import Derived.Test.YtadfbmglbaebiaaGx
namespace Go.Proofs.Ytadfbmglbaebiaa
open Go.RowKit Go.Shelf
set_option linter.unusedVariables false

set_option maxRecDepth 100000 in
set_option maxHeartbeats 2000000 in
theorem deliverR_any (p : Nat) (F : Nat → Prop) (w : World) (st : Lm.Ls) (n : Int) (h : Lk true p F w st) (hl : st.fl.length ≤ 512) :
    Calls Try.prog 34 #[.pointer (some ⟨p, 0, none⟩), .int .i64 n] w fun E w' => ∃ vx, E = .returned (.tuple #[.agg #[.int .i64 (Lm.del st n).1.1.n, .int .i64 (Lm.del st n).1.1.to, vx], .int .i64 (Lm.del st n).1.2]) ∧ LStep true p F w w' (Lm.del st n).2 ∧ Byt F w' vx (Lm.del st n).1.1.bs := by
  have hF := h.lt
  obtain ⟨w1, hw1, sz1, bel1, hR⟩ := blk_step w #[.int .i64 0, .int .i64 0, .slice none 0 0] 31
  have HM := hide (lnoneR_any p F w1 st (h.below bel1))
  have HF := hide (placeR_any p F w1 st n (h.below bel1) hl)
  have HK := hide h
  have HR := hide hR
  clear h hR
  unfold Lm.del
  cases hx : st.fl[Lm.pl st.fl n]? with
  | none =>
    rw [fnd_none hx] at HF
    obtain ⟨V', hV', bV', gV', ⟨a0, a1, a2⟩, ⟨f0, f1, f2⟩, ⟨z0, z1, z2⟩⟩ := res_step HR.out (.int .i64 0) (.int .i64 0) (.slice none 0 0)
    have J := hide (LStep.same HK.out (below_put bel1 gV' (Nat.le_refl _) bel1.size))
    clear hx bV' gV' HR
    go_enter Try.func34, Try.ntmps34
    go_wp2_with fail
    refine HM.out.mono ?_
    rintro E w2 ⟨rfl, rfl⟩
    go_wp2_with fail
    refine HF.out.mono ?_
    rintro E w2 ⟨rfl, rfl⟩
    go_wp2
    refine bodyPost_ret (v := .tuple #[.agg #[.int .i64 0, .int .i64 0, .slice none 0 0], .int .i64 4]) (by simp [results, Try.results34, go_sem, z0, z1, z2]) rfl ?_
    exact ⟨_, rfl, J.out, Byt.nil _ _⟩
  | some x =>
    rw [fnd_some hx] at HF
    have hk := (List.getElem?_eq_some_iff.1 hx).1
    obtain ⟨k, hkk⟩ : ∃ k, k = Lm.pl st.fl n := ⟨_, rfl⟩
    rw [← hkk] at hx hk HF ⊢
    have HX := hide hx
    clear hx hkk
    obtain ⟨vr, rs, h⟩ := HK.out.below bel1
    have hlr := h.len
    obtain ⟨b, off, cap, hvr, _, _, hb, hcell⟩ := h.full (by omega)
    obtain ⟨r, hr⟩ : ∃ r, rs[k]? = some r := ⟨rs[k], by rw [List.getElem?_eq_getElem]⟩
    obtain ⟨e0, e1, e2⟩ := hcell k r hr
    have hrx : r.l = x := by
      have := h.at hr
      rw [HX.out] at this
      simpa using this.symm
    have hrm := List.mem_of_getElem? hr
    obtain ⟨V, hV, hV2, szV, belV, bV, x0, x1, x2⟩ := new_three w1 31 (.int .i64 0) (.int .i64 0) (.slice none 0 0) (.int .i64 r.n) (.int .i64 r.to) r.v
    have belwV := bel1.trans (belV.mono bel1.size)
    have hkV := h.below belV
    have c1 := h.r1
    have hRV := (belV.block w.heap.size (by omega)).trans HR.out
    have hpw := hF p h.inp
    have DL : Hid (Calls Try.prog 47 #[.pointer (some ⟨p, 0, none⟩), .int .i64 k] V fun E w4 => ∃ v4, E = .returned v4 ∧ (w4.cell? ⟨p, 1, none⟩ = some vr ∧ w4.frozen? ⟨p, 1, none⟩ = false ∧ (∃ a n c, v4 = .slice a n c) ∧ ∃ w5, w4.setCell ⟨p, 1, none⟩ v4 = w5 ∧ LStep true p F V w5 ⟨st.last, st.fl.eraseIdx k⟩ ∧ Byt F w5 r.v r.bs ∧ w5.heap[w1.heap.size]? = V.heap[w1.heap.size]? ∧ w5.heap[w.heap.size]? = V.heap[w.heap.size]?)) := hide (by
      refine (withoutR_any p F V st vr rs k hkV hl).mono ?_
      rintro E w4 ⟨v4, rfl, row4, bel4⟩
      obtain ⟨K1, K2, K3⟩ := hkV.cutrow (Out.of_below bel4) (row4.rebase (Nat.zero_le _)) (fun b hb => .inr (row4.lt b hb).1) (fun r hr => List.mem_of_mem_eraseIdx hr) 1 rfl
      obtain ⟨a4, c4, hv4, _⟩ := row4.row.shape
      rw [erase_map, hkV.fl] at K1
      refine ⟨v4, rfl, blk_cell K2 1 rfl, blk_froz K2 1, ⟨a4, _, c4, hv4⟩, _, rfl, K1, K3 r hrm, ?_, ?_⟩
      · exact (Below.heap_setCell w4 ⟨p, 1, none⟩ v4 w1.heap.size (by show w1.heap.size ≠ p; omega)).trans (bel4.block w1.heap.size (by omega))
      · exact (Below.heap_setCell w4 ⟨p, 1, none⟩ v4 w.heap.size (by show w.heap.size ≠ p; omega)).trans (bel4.block w.heap.size (by omega)))
    obtain ⟨ar, nr, cr, hrv⟩ := (h.raw r hrm).1.form
    have hk0 : (0 : Int) ≤ (k : Int) := by omega
    have hkl : (k : Int) < rs.length := by omega
    have HBV := hide bV
    have HRV := hide hRV
    have HRVV := hide hrv
    subst hrx
    rw [hvr] at c1 DL
    rw [hrv] at e2 hV hV2 x2
    replace szV : V.heap.size = w.heap.size + 2 := by omega
    clear h hkV hcell hr bV hRV hvr hrm hrv HX hlr
    go_enter Try.func34, Try.ntmps34
    go_wp2_with fail
    refine HM.out.mono ?_
    rintro E w2 ⟨rfl, rfl⟩
    go_wp2_with fail
    refine HF.out.mono ?_
    rintro E w2 ⟨rfl, rfl⟩
    go_wp2_with fail
    refine DL.out.mono ?_
    rintro E w4 ⟨v4, rfl, c4, f4, ⟨a4, n4, k4, rfl⟩, w5, hw5, s5, by5, hX5, hR5⟩
    have hX := hX5.trans HBV.out
    rw [HRVV.out, sz1] at hX
    have y0 := blk_cell hX 0 rfl
    have y1 := blk_cell hX 1 rfl
    have y2 := blk_cell hX 2 rfl
    have hR := hR5.trans HRV.out
    obtain ⟨w6, hw6, b6, g6, ⟨a0, a1, a2⟩, ⟨f0, f1, f2⟩, ⟨z0, z1, z2⟩⟩ := res_step hR (.int .i64 r.n) (.int .i64 r.to) (.slice ar nr cr)
    have J : Hid (LStep true p F w w6 ⟨st.last, st.fl.eraseIdx k⟩) := hide (s5.res belwV (Nat.le_refl _) (by omega) hF g6)
    have BY : Hid (Byt F w6 (.slice ar nr cr) r.bs) := hide (by
      have h1 := by5.agree (w' := w6) fun g hg => g6.block g (by obtain ⟨_, cs, fr, hc⟩ := by5.2 g hg; exact blk_lt hc) (by
        have := hF g (by5.2 g hg).1
        simp
        omega)
      rw [HRVV.out] at h1
      exact h1)
    clear hX5 hR5 hX hR s5 by5 b6 g6 DL
    go_wp2
    refine bodyPost_ret (v := .tuple #[.agg #[.int .i64 r.n, .int .i64 r.to, .slice ar nr cr], .int .i64 0]) (by simp [results, Try.results34, go_sem, z0, z1, z2]) rfl ?_
    exact ⟨_, rfl, J.out, BY.out⟩

set_option maxHeartbeats 1000000 in
theorem dropR_any (p : Nat) (F : Nat → Prop) (w : World) (st : Lm.Ls) (n : Int) (h : Lk true p F w st) (hl : st.fl.length ≤ 512) :
    Calls Try.prog 36 #[.pointer (some ⟨p, 0, none⟩), .int .i64 n] w fun E w' => E = .returned (.int .i64 (Lm.del st n).1.2) ∧ LStep true p F w w' (Lm.del st n).2 := by
  have HD := hide (deliverR_any p F w st n h hl)
  generalize Lm.del st n = x at *
  obtain ⟨⟨⟨xn, xt, xb⟩, xe⟩, xs⟩ := x
  clear h
  go_enter Try.func36, Try.ntmps36
  go_wp2_with fail
  refine HD.out.mono ?_
  rintro E w1 ⟨vx, rfl, s1, by1⟩
  obtain ⟨a1, n1, c1, rfl⟩ := by1.1.form
  obtain ⟨V, hV, hV2, szV, belV, bV, x0, x1, x2⟩ := new_three w1 31 (.int .i64 0) (.int .i64 0) (.slice none 0 0) (.int .i64 xn) (.int .i64 xt) (.slice a1 n1 c1)
  have J := hide (s1.then belV)
  clear s1 by1 bV belV
  go_wp2
  go_ret
  exact ⟨rfl, J.out⟩

theorem send_put {st : Lm.Ls} {to : Int} {bs : List Int} (h : to = 0 ∨ to = 1) : Lm.send st to bs = Lm.put st to bs := by
  unfold Lm.send
  rw [if_neg (by omega)]

set_option maxRecDepth 100000 in
set_option maxHeartbeats 2000000 in
theorem twiceR_any (p : Nat) (F : Nat → Prop) (w : World) (st : Lm.Ls) (n : Int) (h : Lk true p F w st) (hok : Lm.Ok st) (hlast : st.last < 9223372036854775807) :
    Calls Try.prog 35 #[.pointer (some ⟨p, 0, none⟩), .int .i64 n] w fun E w' => E = .returned (.tuple #[.int .i64 (Lm.twi st n).1.1, .int .i64 (Lm.twi st n).1.2]) ∧ LStep true p F w w' (Lm.twi st n).2 := by
  have HM := hide (lnoneR_any p F w st h)
  have HF := hide (placeR_any p F w st n h hok.len)
  have HK := hide h
  have HO := hide hok
  clear h hok
  unfold Lm.twi
  cases hx : st.fl[Lm.pl st.fl n]? with
  | none =>
    rw [fnd_none hx] at HF
    clear hx
    go_enter Try.func35, Try.ntmps35
    go_wp2_with fail
    refine HM.out.mono ?_
    rintro E w1 ⟨rfl, rfl⟩
    go_wp2_with fail
    refine HF.out.mono ?_
    rintro E w1 ⟨rfl, rfl⟩
    go_wp2
    go_ret2
    exact ⟨rfl, LStep.same HK.out (Below.refl _ _)⟩
  | some x =>
    rw [fnd_some hx] at HF
    have hk := (List.getElem?_eq_some_iff.1 hx).1
    obtain ⟨k, hkk⟩ : ∃ k, k = Lm.pl st.fl n := ⟨_, rfl⟩
    rw [← hkk] at hx hk HF
    have HX := hide hx
    obtain ⟨⟨⟨y1, y2⟩, y3⟩, hy⟩ : ∃ y, Lm.put st x.to x.bs = y := ⟨_, rfl⟩
    simp only [hy]
    have HY := hide hy
    clear hx hkk hy
    obtain ⟨vr, rs, h⟩ := HK.out
    have hl := h.len
    obtain ⟨b, off, cap, hvr, _, _, hb, hcell⟩ := h.full (by omega)
    obtain ⟨r, hr⟩ : ∃ r, rs[k]? = some r := ⟨rs[k], by rw [List.getElem?_eq_getElem]⟩
    obtain ⟨_, e1, e2⟩ := hcell k r hr
    have hrx : r.l = x := by
      have := h.at hr
      rw [HX.out] at this
      simpa using this.symm
    have c1 := h.r1
    rw [hvr] at c1
    have hox := HO.out.each x (List.mem_of_getElem? HX.out)
    have isr := (h.raw r (List.mem_of_getElem? hr)).1
    have PT : Hid (Calls Try.prog 33 #[.pointer (some ⟨p, 0, none⟩), .int .i64 r.to, r.v] w.drew fun E w' => ∃ u, E = .returned u ∧ (u = .tuple #[.int .i64 y1, .int .i64 y2] ∧ LStep true p F w w' y3)) := hide (by
      have e1 : r.to = x.to := by rw [← hrx]; rfl
      have e2 : r.bs = x.bs := by rw [← hrx]; rfl
      have bd : Below w.heap.size w w.drew := below_drewN (Below.refl _ _) 1
      have := sendR_any p F w.drew st r.to r.v r.bs (HK.out.below bd) (isr.drewN 1) (by rw [e2]; exact hox.2.2.2) hlast
      rw [e1, send_put hox.1, e2, HY.out] at this
      rw [e1]
      refine this.mono ?_
      rintro E w' ⟨rfl, s⟩
      exact ⟨_, rfl, rfl, LStep.trans (Out.of_below bd) (fun g hg => .inl hg) s⟩)
    obtain ⟨ar, nr, cr, hrv⟩ := isr.form
    rw [hrv] at e2 PT
    have hk0 : (0 : Int) ≤ (k : Int) := by omega
    have hkl : (k : Int) < rs.length := by omega
    clear hcell hr hrx hox isr hrv h hvr HX HO HK HY hl
    go_enter Try.func35, Try.ntmps35
    go_wp2_with fail
    refine HM.out.mono ?_
    rintro E w1 ⟨rfl, rfl⟩
    go_wp2_with fail
    refine HF.out.mono ?_
    rintro E w1 ⟨rfl, rfl⟩
    go_wp2
    go_region_law (refine call_at rfl 33 #[.tmp 14, .tmp 22, .tmp 30] #[37, 3, 29] rfl Try.enters33 #[.pointer (some ⟨p, 0, none⟩), .int .i64 r.to, .slice ar nr cr] (by first | (simp [Act.eval]; done) | (simp [Act.eval, Act.put]; done)) PT.out ?_; rintro _ w3 ⟨rfl, J⟩; have J := hide J)
    all_goals
      go_wp2
      go_ret2
      exact ⟨rfl, J.out⟩

set_option maxRecDepth 100000 in
set_option maxHeartbeats 4000000 in
theorem flightR_any (p : Nat) (F : Nat → Prop) (w : World) (st : Lm.Ls) (h : Lk true p F w st) (hok : Lm.Ok st) :
    Calls Try.prog 21 #[.pointer (some ⟨p, 0, none⟩)] w fun E w' => ∃ v ns, E = .returned v ∧ (OwnG letc 3 31 w.heap.size w' v ns ∧ ∀ r ∈ ns, Own .u8 5 w.heap.size w' r.v r.bs) ∧ ns.map Lw.l = st.fl ∧ Below w.heap.size w w' := by
  have HM := hide (lnoneR_any p F w st h)
  obtain ⟨vr, rs, h⟩ := h
  have c1 := h.r1
  have hfl := h.fl
  have hlr := h.len
  have hl5 := hok.len
  have hpl := h.lt p h.inp
  have HROW := hide fun (h0 : 0 < rs.length) => h.full h0
  have HB := hide fun r hr => (h.raw r hr).1
  have HBL : Hid (∀ r ∈ rs, r.bs.length ≤ 40) := hide fun r hr => (hok.each r.l (by rw [← hfl]; exact List.mem_map_of_mem hr)).2.2.2
  have HFL := hide hfl
  obtain ⟨ao, cap, hvr, _, _⟩ := h.row.row.shape
  rw [hvr] at c1
  have HV := hide hvr
  have hLn : rs.length ≤ 512 := by omega
  clear h hok hvr hfl hlr hl5
  go_enter Try.func21, Try.ntmps21
  go_wp2_with fail
  refine HM.out.mono ?_
  rintro E w1 ⟨rfl, rfl⟩
  go_wp2
  go_loopw [3, 4] (fun ov iv wr => ∃ k : Nat, k ≤ rs.length ∧ iv = .int .i64 k ∧ Hid (∃ ns, ns.map Lw.l = (rs.map Lw.l).take k ∧ OwnG letc 3 31 w.heap.size wr ov ns ∧ ∀ r ∈ ns, Own .u8 5 w.heap.size wr r.v r.bs) ∧ Below w.heap.size w wr) (fun _ iv _ => rs.length - (intOf iv).toNat)
  case atStart => exact ⟨0, by omega, rfl, hide ⟨[], rfl, OwnG.nil _ _ _ _ _, by simp⟩, Below.refl _ _⟩
  case round =>
    obtain ⟨k, hk, rfl, HT, bel⟩ := hrel
    have d1 := (bel.cell (p := ⟨p, 1, none⟩) hpl).trans c1
    by_cases hlt : k < rs.length
    · obtain ⟨b, off, cq, hvx, _, _, hb, hcell⟩ := HROW.out (by omega)
      rw [HV.out] at hvx
      simp only [Value.slice.injEq, true_and] at hvx
      obtain ⟨rfl, rfl⟩ := hvx
      obtain ⟨r, hr⟩ : ∃ r, rs[k]? = some r := ⟨rs[k], by rw [List.getElem?_eq_getElem]⟩
      obtain ⟨q0, q1, q2⟩ := hcell k r hr
      have e0 := (bel.cell (p := ⟨b, off + k * 3, none⟩) hb).trans q0
      have e1 := (bel.cell (p := ⟨b, off + k * 3 + 1, none⟩) hb).trans q1
      have e2 := (bel.cell (p := ⟨b, off + k * 3 + 2, none⟩) hb).trans q2
      have isr := (HB.out r (List.mem_of_getElem? hr)).below bel
      have hbl := HBL.out r (List.mem_of_getElem? hr)
      obtain ⟨ar, nr, cr, hrv⟩ := isr.form
      obtain ⟨V, hV, hV2, szV, belV, bV, x0, x1, x2⟩ := new_three wr 31 (.int .i64 0) (.int .i64 0) (.slice none 0 0) (.int .i64 r.n) (.int .i64 r.to) r.v
      have sz := bel.size
      have OW : Hid (Calls Try.prog 41 #[r.v] V fun E wc => ∃ v6, E = .returned v6 ∧ (∃ a n c, v6 = .slice a n c) ∧ wc.cell? ⟨wr.heap.size, 2, none⟩ = some r.v ∧ wc.frozen? ⟨wr.heap.size, 2, none⟩ = false ∧ ∃ wd, wc.setCell ⟨wr.heap.size, 2, none⟩ v6 = wd ∧ wd.cell? ⟨wr.heap.size, 0, none⟩ = some (.int .i64 r.n) ∧ wd.cell? ⟨wr.heap.size, 1, none⟩ = some (.int .i64 r.to) ∧ wd.cell? ⟨wr.heap.size, 2, none⟩ = some v6 ∧ Hid (Below wr.heap.size wr wd ∧ Own .u8 5 wr.heap.size wd v6 r.bs)) := hide (by
        refine (lownR_any r.v r.bs V (isr.below belV) (by omega)).mono ?_
        rintro E wc ⟨v6, rfl, own6, bel6⟩
        have hbc := (bel6.block wr.heap.size (by omega)).trans bV
        have hbd := set_cells hbc 2 v6
        have b0 : Below wr.heap.size wr wc := belV.trans (bel6.mono (by omega))
        refine ⟨v6, rfl, own6.is.form, blk_cell hbc 2 rfl, blk_froz hbc 2, _, rfl, blk_cell hbd 0 rfl, blk_cell hbd 1 rfl, blk_cell hbd 2 rfl, hide ⟨b0.grown (grown_setCell wc ⟨wr.heap.size, 2, none⟩ v6) b0.size fun j hj => by simp at hj; omega, (own6.rebase (by omega)).agree fun g hg => Below.heap_setCell _ _ _ _ ?_⟩⟩
        have := (own6.block g hg).1
        show g ≠ wr.heap.size
        omega)
      have hk0 : (0 : Int) ≤ (k : Int) := by omega
      have hkl : (k : Int) < rs.length := by omega
      have HRR := hide hr
      have hbh := hide hbl
      rw [hrv] at e2 hV hV2 x2 OW
      clear hcell hr q0 q1 q2 isr hrv bV belV szV hbl
      go_wp2_with fail
      refine OW.out.mono ?_
      rintro E wc ⟨v6, rfl, ⟨a6, n6, c6, rfl⟩, g1, g2, wd, hwd, y0, y1, y2, HD⟩
      obtain ⟨w5, hw5, sz5, bel5, row5⟩ := rows_step letc 3 letc_len 31 wd #[.int .i64 r.n, .int .i64 r.to, .slice a6 n6 c6] 1 [⟨r.n, r.to, .slice a6 n6 c6, r.bs⟩] rfl rfl (by simp [maxLen])
      have X : Hid (∀ ov, (∃ ns, ns.map Lw.l = (rs.map Lw.l).take k ∧ OwnG letc 3 31 w.heap.size wr ov ns ∧ ∀ r ∈ ns, Own .u8 5 w.heap.size wr r.v r.bs) → ∀ ty, ∃ v' w', (Builtin.append_ #[45, 45] ty #[ov, .slice (some ⟨wd.heap.size, 0, none⟩) 1 1]).run Try.prog w5 = .ok v' w' ∧ (Hid (∃ ns, ns.map Lw.l = (rs.map Lw.l).take (k + 1) ∧ OwnG letc 3 31 w.heap.size w' v' ns ∧ ∀ r ∈ ns, Own .u8 5 w.heap.size w' r.v r.bs) ∧ Below w.heap.size w w')) := hide fun ov hov ty => by
        obtain ⟨ns, h1, h2, h3⟩ := hov
        obtain ⟨bd, own6⟩ := HD.out
        have b5 : Below wr.heap.size wr w5 := bd.trans (bel5.mono bd.size)
        have s5 := b5.size
        have h2' := h2.agree (w' := w5) fun g hg => b5.block g (h2.lt g hg).2
        have hnl : ns.length ≤ 512 := by
          have := congrArg List.length h1
          simp at this
          omega
        obtain ⟨v', w', hr', ho, hg, _⟩ := run_append_rows_at (P := Try.prog) (w := w5) 45 ty letc 3 40 letc_len (by decide) (by decide) (.agg #[.int .i64 0, .int .i64 0, .slice none 0 0]) rfl 31 w.heap.size Try.underlying45 Try.info31 ov ns h2' _ [_] row5.row (letc_one _ fun x hx => by simp at hx; subst hx; exact ⟨_, _, _, rfl⟩) (by simp; omega) (by omega)
        have ne : ∀ (u : Value) (zs : List Int) (base : Nat), Own .u8 5 base w5 u zs → ∀ g, u.ownBlock = some g → w'.heap[g]? = w5.heap[g]? := fun u zs base hu g hgu => hg.block g (hu.block g hgu).2 fun e => by
          obtain ⟨cs, hc⟩ := hu.type hgu
          obtain ⟨cs', hc'⟩ := h2'.type e.symm
          rw [hc] at hc'
          simp at hc'
        refine ⟨v', w', hr', hide ⟨_, ?_, ho, fun x hx => ?_⟩, (bel.trans (b5.mono sz)).grown hg (by omega) fun j hj => (h2'.lt j hj).1⟩
        · rw [List.map_append, h1, List.take_succ_eq_append_getElem (by rw [List.length_map]; exact hlt), List.getElem_map]
          have hr := HRR.out
          rw [List.getElem?_eq_getElem hlt] at hr
          simp at hr
          rw [hr]
          rfl
        · rcases List.mem_append.1 hx with hx | hx
          · have := (h3 x hx).below b5
            exact this.agree (ne _ _ _ this)
          · simp only [List.mem_singleton] at hx
            subst hx
            have := (own6.below bel5).rebase sz
            exact this.agree (ne _ _ _ this)
      clear row5 sz5 OW
      go_wp2_with (at_builtin; refine wpList_append_at rfl (.tmp 29) (.tmp 31) 45 rfl _ (.slice (some ⟨wd.heap.size, 0, none⟩) 1 1) rfl rfl (X.out _ HT.out) ?_)
      intro v7 w7 J bel7
      clear X HT
      go_wp2
      go_roundw
      case rel => exact ⟨k + 1, by omega, by go_num, J, bel7⟩
      case measure => simp [intOf]; omega
    · have hkl : ¬ (k : Int) < rs.length := by omega
      have J : Hid (∃ ns, (OwnG letc 3 31 w.heap.size wr u3 ns ∧ ∀ r ∈ ns, Own .u8 5 w.heap.size wr r.v r.bs) ∧ ns.map Lw.l = st.fl) := hide (by
        obtain ⟨ns, h1, h2, h3⟩ := HT.out
        rw [List.take_of_length_le (by rw [List.length_map]; omega)] at h1
        exact ⟨ns, ⟨h2, h3⟩, by rw [h1, HFL.out]⟩)
      clear HT
      go_wp2
      go_ret
      obtain ⟨ns, h1, h2⟩ := J.out
      exact ⟨_, rfl, ns, h1, h2, bel⟩

end Go.Proofs.Ytadfbmglbaebiaa
