/- The program's link: Twice, Deliver, Drop. -/
import Derived.Test.YtadfbmglbaebiaaLc
namespace Go.Proofs.Ytadfbmglbaebiaa
open Go.RowKit Go.Shelf
set_option linter.unusedVariables false

set_option maxRecDepth 100000 in
set_option maxHeartbeats 2000000 in
theorem twice_any (p : Nat) (F : Nat → Prop) (w : World) (st : Lm.Ls) (n : Int) (h : Lk false p F w st) (hok : Lm.Ok st) (hlast : st.last < 9223372036854775807) :
    Calls Try.prog 11 #[.pointer (some ⟨p, 0, none⟩), .int .i64 n] w fun E w' => E = .returned (.tuple #[.int .i64 (Lm.twi st n).1.1, .int .i64 (Lm.twi st n).1.2]) ∧ LStep false p F w w' (Lm.twi st n).2 := by
  have HM := hide (made_any p F w st h)
  have HF := hide (find_any p F w st n h hok.len)
  have HK := hide h
  have HO := hide hok
  clear h hok
  unfold Lm.twi
  cases hx : st.fl[Lm.pl st.fl n]? with
  | none =>
    have hn : Lm.fnd st.fl n = -1 := by
      unfold Lm.fnd
      rw [if_neg]
      intro h1
      rw [List.getElem?_eq_getElem h1] at hx
      cases hx
    rw [hn] at HF
    clear hx hn
    go_enter Try.func11, Try.ntmps11
    go_wp2_with fail
    refine HM.out.mono ?_
    rintro E w1 ⟨rfl, rfl⟩
    go_wp2_with fail
    refine HF.out.mono ?_
    rintro E w1 ⟨rfl, bel1⟩
    have J := hide (LStep.same HK.out bel1)
    go_wp2
    go_ret2
    exact ⟨rfl, J.out⟩
  | some x =>
    have hk := (List.getElem?_eq_some_iff.1 hx).1
    obtain ⟨k, hkk⟩ : ∃ k, k = Lm.pl st.fl n := ⟨_, rfl⟩
    have hn : Lm.fnd st.fl n = (k : Int) := by
      unfold Lm.fnd
      rw [if_pos hk, hkk]
    rw [hn] at HF
    rw [← hkk] at hx hk
    have HX := hide hx
    obtain ⟨⟨⟨y1, y2⟩, y3⟩, hy⟩ : ∃ y, Lm.put st x.to x.bs = y := ⟨_, rfl⟩
    simp only [hy]
    have HY := hide hy
    clear hx hn hkk hy
    go_enter Try.func11, Try.ntmps11
    go_wp2_with fail
    refine HM.out.mono ?_
    rintro E w1 ⟨rfl, rfl⟩
    go_wp2_with fail
    refine HF.out.mono ?_
    rintro E w1 ⟨rfl, bel1⟩
    obtain ⟨vr, rs, h⟩ := HK.out.below bel1
    have hl := h.len
    obtain ⟨b, off, cap, hvr, _, _, hb, hcell⟩ := h.full (by omega)
    obtain ⟨r, hr⟩ : ∃ r, rs[k]? = some r := ⟨rs[k], by rw [List.getElem?_eq_getElem]⟩
    obtain ⟨_, e1, e2⟩ := hcell k r hr
    have hrx : r.l = x := by
      have := h.at hr
      rw [HX.out] at this
      simpa using this.symm
    have c2 := h.p2
    rw [hvr] at c2
    have hox := HO.out.each x (List.mem_of_getElem? HX.out)
    have isr := (h.raw r (List.mem_of_getElem? hr)).1
    have PT : Hid (Calls Try.prog 29 #[.pointer (some ⟨p, 0, none⟩), .int .i64 r.to, r.v] w1.drew fun E w' => ∃ u, E = .returned u ∧ (u = .tuple #[.int .i64 (Lm.put st x.to x.bs).1.1, .int .i64 (Lm.put st x.to x.bs).1.2] ∧ LStep false p F w w' (Lm.put st x.to x.bs).2)) := hide (by
      have e1 : r.to = x.to := by rw [← hrx]; rfl
      have e2 : r.bs = x.bs := by rw [← hrx]; rfl
      have bd := below_drewN (Below.refl w1.heap.size w1) 1
      have bd0 := bel1.trans (bd.mono bel1.size)
      refine (lput_any p F w1.drew st r.to r.v r.bs ((HK.out.below bel1).below bd) (isr.drewN 1) (by rw [e2]; exact hox.2.2.2) hlast).mono ?_
      rintro E w' ⟨rfl, s⟩
      rw [e1, e2] at s ⊢
      exact ⟨_, rfl, rfl, LStep.trans (Out.of_below bd0) (fun g hg => .inl hg) s⟩)
    obtain ⟨ar, nr, cr, hrv⟩ := isr.form
    rw [hrv] at e2 PT
    rw [HY.out] at PT
    have hk0 : (0 : Int) ≤ (k : Int) := by omega
    have hkl : (k : Int) < rs.length := by omega
    clear hcell hr hrx hox isr hrv h hvr HX HO HK HY
    go_wp2
    go_region_law (refine call_at rfl 29 #[.tmp 15, .tmp 23, .tmp 31] #[23, 3, 29] rfl Try.enters29 #[.pointer (some ⟨p, 0, none⟩), .int .i64 r.to, .slice ar nr cr] (by first | (simp [Act.eval]; done) | (simp [Act.eval, Act.put]; done)) PT.out ?_; rintro _ w3 ⟨rfl, J⟩; have J := hide J)
    all_goals
      go_wp2
      go_ret2
      exact ⟨rfl, J.out⟩

/-- A link's row is another one now: letters of before. -/
theorem LkV.cutrow {d : Bool} {p : Nat} {F : Nat → Prop} {w w4 : World} {st : Lm.Ls} {v v4 : Value} {rs rs4 : List Lw} (h : LkV d p F w st v rs) (ho : Out (fun g => v.ownBlock = some g) w w4) (row4 : OwnG letc 3 31 0 w4 v4 rs4) (hat : ∀ b, v4.ownBlock = some b → v.ownBlock = some b ∨ w.heap.size ≤ b) (hsub : ∀ r ∈ rs4, r ∈ rs) (j : Nat) (hj : (lcells d v st.last).setIfInBounds j v4 = lcells d v4 st.last) :
    LStep d p F w (w4.setCell ⟨p, j, none⟩ v4) ⟨st.last, rs4.map Lw.l⟩ ∧ w4.heap[p]? = some (.cells (lcells d v st.last) (ltyp d) (0, 0)) ∧ ∀ r ∈ rs, Byt F (w4.setCell ⟨p, j, none⟩ v4) r.v r.bs := by
  have hpw := h.lt p h.inp
  have s4 := ho.size
  have hp4 : w4.heap[p]? = some (.cells (lcells d v st.last) (ltyp d) (0, 0)) := (ho.block p hpw fun e => h.rowne p e rfl).trans h.blk
  have k2 : ∀ g, g ≠ p → (w4.setCell ⟨p, j, none⟩ v4).heap[g]? = w4.heap[g]? := fun g hg => Below.heap_setCell _ _ _ _ hg
  have hv4p : ∀ b, v4.ownBlock = some b → b ≠ p := by
    intro b hb e
    obtain ⟨cs, hc⟩ := row4.type hb
    rw [e, hp4] at hc
    simp at hc
    exact ltyp_l d hc.2
  have hsF : (w4.setCell ⟨p, j, none⟩ v4).heap.size = w4.heap.size := by simp [World.setCell]
  have hbyt : ∀ r ∈ rs, Byt F (w4.setCell ⟨p, j, none⟩ v4) r.v r.bs := fun x hx => by
    refine (h.raw x hx).agree fun b hb => ?_
    have n1 := (h.raw x hx).ne h.blk (ltyp_u d) b hb
    refine (k2 b n1).trans (ho.block b (h.lt b ((h.raw x hx).2 b hb).1) fun e => ?_)
    obtain ⟨cs, hc⟩ := h.row.type e
    exact (h.raw x hx).ne hc (by decide) b hb rfl
  refine ⟨⟨fun g => F g ∨ (w.heap.size ≤ g ∧ g < w4.heap.size), ⟨v4, rs4, ?_, .inl h.inp, row4.agree fun b hb => k2 b (hv4p b hb), fun b hb => ?_, fun x hx => (hbyt x (hsub x hx)).mono fun g hg => .inl hg, rfl, fun g hg => ?_⟩, ?_, fun g hg => ?_⟩, hp4, hbyt⟩
  · rw [set_cells hp4, hj]
  · rcases hat b hb with e | e
    · exact .inl (h.inr b e)
    · exact .inr ⟨e, (row4.lt b hb).2⟩
  · rw [hsF]
    rcases hg with hg | hg
    · have := h.lt g hg
      omega
    · exact hg.2
  · refine ⟨ho.os, ho.tape, ho.output, by rw [hsF]; exact s4, fun g hg hn => ?_⟩
    exact (k2 g fun e => hn (e ▸ h.inp)).trans (ho.block g hg fun e => hn (h.inr g e))
  · rcases hg with hg | hg
    · exact .inl hg
    · exact .inr hg.1

set_option maxHeartbeats 4000000 in
theorem ldel_any (w : World) (wv : Value) (rs : List Lw) (k : Nat) (hrow : OwnG letc 3 31 0 w wv rs) (hsl : ∀ r ∈ rs, ∃ a n c, r.v = .slice a n c) (hk : k < rs.length) (hlen : rs.length ≤ 1000000) :
    Calls Try.prog 31 #[wv, .int .i64 k, .int .i64 ((k : Int) + 1)] w fun E w' => ∃ v', E = .returned v' ∧ OwnG letc 3 31 0 w' v' (rs.eraseIdx k) ∧ Out (fun g => wv.ownBlock = some g) w w' ∧ v'.ownBlock = wv.ownBlock := by
  obtain ⟨L, hL⟩ : ∃ L, L = rs.length := ⟨_, rfl⟩
  obtain ⟨m, hm⟩ : ∃ m, L = k + 1 + m := ⟨L - (k + 1), by omega⟩
  obtain ⟨q, hq⟩ : ∃ q, q = k + m := ⟨_, rfl⟩
  obtain ⟨g, cap, hv, hcap, hcm, hcell, hfroz⟩ : ∃ g cap, wv = .slice (some ⟨g, 0, none⟩) L cap ∧ L ≤ cap ∧ cap ≤ maxLen ∧ (∀ j, j < cap * 3 → (w.cell? ⟨g, j, none⟩).isSome = true) ∧ ∀ j, w.frozen? ⟨g, j, none⟩ = false := by
    rcases hrow.2 with ⟨_, h⟩ | ⟨g, cap, cur, hv, _, hg, hc, hm', hs, _⟩
    · omega
    · refine ⟨g, cap, by rw [hL]; exact hv, by rw [hL]; exact hc, hm', fun j hj => ?_, fun j => blk_froz hg j⟩
      rw [blk_cell hg j (Array.getElem?_eq_getElem (by omega : j < cur.size))]
      rfl
  have hdl : (rs.drop (k + 1)).length = m := by rw [List.length_drop]; omega
  have htl : (rs.take k).length = k := by rw [List.length_take]; omega
  obtain ⟨i, hi, hz, hsize, hby⟩ := info_parts Try.info31
  obtain ⟨vs, hs3, hrw⟩ := hrow.row.slice_l letc_len Try.elemL Try.sizeL (k + 1) (by omega)
  obtain ⟨avs, cvs, hvs, hcv, hcells⟩ : ∃ ad c, vs = .slice (some ad) m c ∧ m ≤ c ∧ ∀ j u, (gcells letc (rs.drop (k + 1)))[j]? = some u → w.cell? (ad.add j) = some u := by
    rcases hrw with ⟨h, h'⟩ | ⟨ad, c, h1, h2, _, h4⟩
    · exfalso
      have := hs3 w
      rw [hv, run_slice_l w 45 (some ⟨g, 0, none⟩) L cap Try.elemL .i64 _ (by omega) (by omega), Try.sizeL, h] at this
      simp [Result.andThen, sliced] at this
      split at this <;> simp at this
    · exact ⟨ad, c, by rw [h1, hdl], by omega, h4⟩
  have own0 : w.ownsRow 0 31 3 (.slice (some ⟨g, 0, none⟩) k cap) k (gcells letc (rs.take k)) := by
    have h1 : w.ownsRow 0 31 3 wv L (gcells letc rs) := by rw [hL]; exact hrow
    rw [hv] at h1
    rw [gcells_take letc_len]
    exact own_cut h1 k (by omega)
  have hrun : ∃ w1, (∀ ty, (Builtin.append_ #[45, 45] ty #[.slice (some ⟨g, 0, none⟩) k cap, .slice (some avs) m cvs]).run Try.prog w.drew = .ok (.slice (some ⟨g, 0, none⟩) q cap) w1) ∧ w1.ownsRow 0 31 3 (.slice (some ⟨g, 0, none⟩) q cap) q (gcells letc (rs.eraseIdx k)) ∧ w.drew.grownBy w1 (some g) := by
    have key := fun ty => run_append_fits (P := Try.prog) w.drew 0 45 ty 31 i 3 Try.underlying45 hi hsize g k cap (gcells letc (rs.take k)) own0 avs m cvs (gcells letc (rs.drop (k + 1))) (by rw [gcells_len letc_len, hdl]) hcells (letc_one _ fun r hr => hsl r (List.mem_of_mem_drop hr)) (by omega)
    obtain ⟨w1, h1, h2, h3⟩ := key 0
    rw [← gcells_app, ← List.eraseIdx_eq_take_drop_succ, ← hq] at h2
    rw [← hq] at h1
    exact ⟨w1, fun ty => h1, h2, h3⟩
  obtain ⟨w1, hrun, own1, gr1⟩ := hrun
  obtain ⟨cur1, hg1, hs1⟩ : ∃ cur, w1.heap[g]? = some (.cells cur 31 (0, 0)) ∧ cur.size = cap * 3 := by
    rcases own1.2 with ⟨h, _⟩ | ⟨g', cap', cur, h, _, hg, _, _, hs, _⟩
    · simp at h
    · simp only [Value.slice.injEq, Option.some.injEq, Addr.mk.injEq, and_true, true_and] at h
      obtain ⟨rfl, rfl⟩ := h
      exact ⟨cur, hg, hs⟩
  have hLq : L - q = 1 := by omega
  have hzl : (Builtin.zeroCells (Value.agg #[.int .i64 0, .int .i64 0, .slice none 0 0]).cells (L - q)).toList.length = 3 := by rw [zeroCells_len, hLq]; rfl
  obtain ⟨w2, hw2⟩ : ∃ w2, w2 = w1.setCells g (q * 3) (Builtin.zeroCells (Value.agg #[.int .i64 0, .int .i64 0, .slice none 0 0]).cells (L - q)).toList := ⟨_, rfl⟩
  have hcl : ∀ ty, (Builtin.clear_ #[45] ty #[.slice (some ⟨g, q * 3, none⟩) (L - q) (cap - q)]).run Try.prog w1 = .ok (.tuple #[]) w2 := fun ty => by
    rw [hw2]
    exact run_clear_rows w1 _ _ ty _ Try.underlying45 Try.zeroL (zeroCells_one (L - q) (by decide)) g (q * 3) (cap - q) (by omega) (fun j hj => by rw [hzl] at hj; rw [blk_cell hg1 _ (Array.getElem?_eq_getElem (by omega : q * 3 + j < cur1.size))]; rfl) (fun j _ => blk_froz hg1 _)
  have hel : (rs.eraseIdx k).length = q := by rw [List.length_eraseIdx, if_pos hk]; omega
  have R : Hid (OwnG letc 3 31 0 w2 (.slice (some ⟨g, 0, none⟩) q cap) (rs.eraseIdx k)) := hide (by
    unfold OwnG
    rw [hel, hw2]
    exact own_setCells own1 _ (Nat.le_refl _) _)
  have O : Hid (Out (fun b => (Value.slice (some ⟨g, 0, none⟩) L cap).ownBlock = some b) w w2) := hide (by
    rw [hw2]
    exact Out.of_grown (grown_trans (grown_trans (grown_drewN w 1 _) gr1) (setCells_grown g _ (q * 3) w1)) fun b hb => hb)
  obtain ⟨x1, hsA⟩ : ∃ x, ∀ wx, (Instr.slice 45 wv (some (.int .i64 k)) (some (.int .i64 ((k : Int) + 1))) (some (.int .i64 L))).run Try.prog wx = .ok x wx := by
    refine ⟨sliced (some ⟨g, 0, none⟩) k (k + 1) L 3, fun wx => ?_⟩
    rw [hv, run_slice_lhm wx 45 (some ⟨g, 0, none⟩) L cap Try.elemL .i64 .i64 .i64 _ _ _ (by omega) (by omega) (by omega) (by omega), Try.sizeL]
    have h1 : ((k : Int) + 1).toNat = k + 1 := by omega
    simp [Result.andThen, h1]
  have hs2 : ∀ wx, (Instr.slice 45 wv none (some (.int .i64 k)) none).run Try.prog wx = .ok (.slice (some ⟨g, 0, none⟩) k cap) wx := fun wx => by
    rw [hv, run_slice_h wx 45 (some ⟨g, 0, none⟩) L cap Try.elemL .i64 _ (by omega) (by omega), Try.sizeL]
    simp [Result.andThen, sliced, Addr.add]
  have hlr : ∀ ty wx, (Builtin.len_ #[45] ty #[wv]).run Try.prog wx = .ok (.int .i64 L) wx := fun ty wx => by
    rw [hv]
    simp [Builtin.len_, run_underlying Try.underlying45, goInt]
  have hob : wv.ownBlock = some g := by rw [hv]; rfl
  have hs4 : ∀ wx, (Instr.slice 45 wv (some (.int .i64 ((k : Int) + 1))) none none).run Try.prog wx = .ok (.slice (some avs) m cvs) wx := fun wx => by
    have := hs3 wx
    rw [hvs] at this
    simpa using this
  rw [← hv] at O
  have hmc : ¬ cap = q := by omega
  have hmL : (q : Int) ≤ L := by omega
  have hLc : (L : Int) ≤ cap := by omega
  have hne : ((k : Int) == (k : Int) + 1) = false := by simp; omega
  have HB := hide hob
  have HR := hide hrun
  clear hrun hw2 hzl hg1 hs1 own1 gr1 own0 hrw hcells hcell hfroz hrow hsl hi hz hsize hby hvs hdl htl hel hL hm hv hLq hk hlen hcap hcm hob hcv hq hs3
  go_enter Try.func31, Try.ntmps31
  go_wp2
  go_region_law (refine step_append_at rfl (.tmp 22) (.tmp 25) 45 rfl (.slice (some ⟨g, 0, none⟩) k cap) (.slice (some avs) m cvs) (by first | rfl | (simp [Act.eval]; done)) (by first | rfl | (simp [Act.eval]; done)) (R := fun v' w' => v' = .slice (some ⟨g, 0, none⟩) q cap ∧ w' = w1) (fun ty => ⟨_, _, HR.out ty, rfl, rfl⟩) ?_; rintro _ _ ⟨rfl, rfl⟩)
  all_goals (go_wp2; go_ret; exact ⟨_, rfl, R.out, O.out, HB.out.symm⟩)

end Go.Proofs.Ytadfbmglbaebiaa
