/- The program's link: Deliver, Drop. -/
import Derived.Test.YtadfbmglbaebiaaLd
namespace Go.Proofs.Ytadfbmglbaebiaa
open Go.RowKit Go.Shelf
set_option linter.unusedVariables false

/-- A block that is not the link's was written behind the step. -/
theorem LStep.res {d : Bool} {p : Nat} {F : Nat → Prop} {w V w5 w6 : World} {st' : Lm.Ls} (s : LStep d p F V w5 st') (bel : Below w.heap.size w V) {R : Nat} (hR : w.heap.size ≤ R) (hRV : R < V.heap.size) (hF : ∀ g, F g → g < w.heap.size) (g6 : w5.grownBy w6 (some R)) : LStep d p F w w6 st' := by
  obtain ⟨F', h1, h2, h3⟩ := s
  have hn : ¬ F' R := fun h => by
    rcases h3 R h with h | h
    · have := hF R h; omega
    · omega
  have o6 : Out (fun g => g = R) w5 w6 := Out.of_grown g6 fun g hg => by simp at hg; exact hg.symm
  refine ⟨F', h1.out o6 fun g hg e => hn (e ▸ hg), ((Out.of_below bel).trans h2 fun g hg => .inl hg).trans o6 fun g hg => .inr (by omega), fun g hg => ?_⟩
  rcases h3 g hg with h | h
  · exact .inl h
  · exact .inr (by have := bel.size; omega)

theorem erase_map (rs : List Lw) (k : Nat) : (rs.eraseIdx k).map Lw.l = (rs.map Lw.l).eraseIdx k := by
  rw [List.eraseIdx_eq_take_drop_succ, List.eraseIdx_eq_take_drop_succ, List.map_append, List.map_take, List.map_drop]

theorem fnd_some {st : Lm.Ls} {n : Int} {x : Lm.Lt} (hx : st.fl[Lm.pl st.fl n]? = some x) : Lm.fnd st.fl n = (Lm.pl st.fl n : Int) := by
  unfold Lm.fnd
  rw [if_pos (List.getElem?_eq_some_iff.1 hx).1]

theorem fnd_none {st : Lm.Ls} {n : Int} (hx : st.fl[Lm.pl st.fl n]? = none) : Lm.fnd st.fl n = -1 := by
  unfold Lm.fnd
  rw [if_neg]
  intro h1
  rw [List.getElem?_eq_getElem h1] at hx
  cases hx

set_option maxRecDepth 100000 in
set_option maxHeartbeats 2000000 in
theorem deliver_any (p : Nat) (F : Nat → Prop) (w : World) (st : Lm.Ls) (n : Int) (h : Lk false p F w st) (hl : st.fl.length ≤ 512) :
    Calls Try.prog 12 #[.pointer (some ⟨p, 0, none⟩), .int .i64 n] w fun E w' => ∃ vx, E = .returned (.tuple #[.agg #[.int .i64 (Lm.del st n).1.1.n, .int .i64 (Lm.del st n).1.1.to, vx], .int .i64 (Lm.del st n).1.2]) ∧ LStep false p F w w' (Lm.del st n).2 ∧ Byt F w' vx (Lm.del st n).1.1.bs := by
  have hF := h.lt
  obtain ⟨w1, hw1, sz1, bel1, hR⟩ := blk_step w #[.int .i64 0, .int .i64 0, .slice none 0 0] 31
  have HM := hide (made_any p F w1 st (h.below bel1))
  have HF := hide (find_any p F w1 st n (h.below bel1) hl)
  have HK := hide h
  have HR := hide hR
  clear h hR
  unfold Lm.del
  cases hx : st.fl[Lm.pl st.fl n]? with
  | none =>
    rw [fnd_none hx] at HF
    clear hx
    go_enter Try.func12, Try.ntmps12
    go_wp2_with fail
    refine HM.out.mono ?_
    rintro E w2 ⟨rfl, rfl⟩
    go_wp2_with fail
    refine HF.out.mono ?_
    rintro E w2 ⟨rfl, bel2⟩
    have hR2 := (bel2.block w.heap.size (by omega)).trans HR.out
    obtain ⟨V', hV', bV', gV', ⟨a0, a1, a2⟩, ⟨f0, f1, f2⟩, ⟨z0, z1, z2⟩⟩ := res_step hR2 (.int .i64 0) (.int .i64 0) (.slice none 0 0)
    have bel02 := bel1.trans (bel2.mono (by omega))
    have J := hide (LStep.same HK.out (below_put bel02 gV' (Nat.le_refl _) bel02.size))
    clear bV' gV' hR2 HR
    go_wp2
    refine bodyPost_ret (v := .tuple #[.agg #[.int .i64 0, .int .i64 0, .slice none 0 0], .int .i64 4]) (by simp [results, Try.results12, go_sem, z0, z1, z2]) rfl ?_
    exact ⟨_, rfl, J.out, Byt.nil _ _⟩
  | some x =>
    rw [fnd_some hx] at HF
    have hk := (List.getElem?_eq_some_iff.1 hx).1
    obtain ⟨k, hkk⟩ : ∃ k, k = Lm.pl st.fl n := ⟨_, rfl⟩
    rw [← hkk] at hx hk HF ⊢
    have HX := hide hx
    clear hx hkk
    go_enter Try.func12, Try.ntmps12
    go_wp2_with fail
    refine HM.out.mono ?_
    rintro E w2 ⟨rfl, rfl⟩
    go_wp2_with fail
    refine HF.out.mono ?_
    rintro E w2 ⟨rfl, bel2⟩
    have sz2 := bel2.size
    have bel02 := bel1.trans (bel2.mono (by omega))
    obtain ⟨vr, rs, h⟩ := HK.out.below bel02
    have hlr := h.len
    obtain ⟨b, off, cap, hvr, _, _, hb, hcell⟩ := h.full (by omega)
    obtain ⟨r, hr⟩ : ∃ r, rs[k]? = some r := ⟨rs[k], by rw [List.getElem?_eq_getElem]⟩
    obtain ⟨e0, e1, e2⟩ := hcell k r hr
    have hrx : r.l = x := by
      have := h.at hr
      rw [HX.out] at this
      simpa using this.symm
    have hrm := List.mem_of_getElem? hr
    obtain ⟨V, hV, hV2, szV, belV, bV, x0, x1, x2⟩ := new_three w2 31 (.int .i64 0) (.int .i64 0) (.slice none 0 0) (.int .i64 r.n) (.int .i64 r.to) r.v
    have belwV := bel02.trans (belV.mono bel02.size)
    have hkV := h.below belV
    have c2 := h.p2
    have d2 := hkV.p2
    have hRV := (belV.block w.heap.size (by omega)).trans ((bel2.block w.heap.size (by omega)).trans HR.out)
    have hvb : ∀ g, vr.ownBlock = some g → g < w.heap.size := fun g hg => hF g (h.inr g hg)
    have hpw := hF p h.inp
    have DL : Hid (Calls Try.prog 31 #[vr, .int .i64 k, .int .i64 ((k : Int) + 1)] V fun E w4 => ∃ v4, E = .returned v4 ∧ (w4.cell? ⟨p, 2, none⟩ = some vr ∧ w4.frozen? ⟨p, 2, none⟩ = false ∧ (∃ a n c, v4 = .slice a n c) ∧ ∃ w5, w4.setCell ⟨p, 2, none⟩ v4 = w5 ∧ LStep false p F V w5 ⟨st.last, st.fl.eraseIdx k⟩ ∧ Byt F w5 r.v r.bs ∧ w5.heap[w2.heap.size]? = V.heap[w2.heap.size]? ∧ w5.heap[w.heap.size]? = V.heap[w.heap.size]?)) := hide (by
      refine (ldel_any V vr rs k hkV.row (fun r hr => (hkV.raw r hr).1.form) (by omega) (by omega)).mono ?_
      rintro E w4 ⟨v4, rfl, row4, out4, ob4⟩
      obtain ⟨K1, K2, K3⟩ := hkV.cutrow out4 row4 (fun b hb => .inl (by rw [← ob4]; exact hb)) (fun r hr => List.mem_of_mem_eraseIdx hr) 2 rfl
      obtain ⟨a4, c4, hv4, _⟩ := row4.row.shape
      rw [erase_map, hkV.fl] at K1
      refine ⟨v4, rfl, blk_cell K2 2 rfl, blk_froz K2 2, ⟨a4, _, c4, hv4⟩, _, rfl, K1, K3 r hrm, ?_, ?_⟩
      · exact (Below.heap_setCell w4 ⟨p, 2, none⟩ v4 w2.heap.size (by show w2.heap.size ≠ p; omega)).trans (out4.block w2.heap.size (by omega) fun e => by have := hvb _ e; omega)
      · exact (Below.heap_setCell w4 ⟨p, 2, none⟩ v4 w.heap.size (by show w.heap.size ≠ p; omega)).trans (out4.block w.heap.size (by omega) fun e => by have := hvb _ e; omega))
    obtain ⟨ar, nr, cr, hrv⟩ := (h.raw r hrm).1.form
    have hk0 : (0 : Int) ≤ (k : Int) := by omega
    have hkl : (k : Int) < rs.length := by omega
    have hw1 : IntKind.i64.wrap ((k : Int) + 1) = (k : Int) + 1 := wrap64s _ (by omega) (by omega)
    have HBV := hide bV
    have HRV := hide hRV
    have HRVV := hide hrv
    subst hrx
    rw [hvr] at c2 d2 DL
    rw [hrv] at e2 hV hV2 x2
    clear h hkV hcell hr bV hRV hvr hvb hrm hrv HX hlr
    go_wp2_with fail
    refine DL.out.mono ?_
    rintro E w4 ⟨v4, rfl, c4, f4, ⟨a4, n4, k4, rfl⟩, w5, hw5, s5, by5, hX5, hR5⟩
    have hX := hX5.trans HBV.out
    rw [HRVV.out] at hX
    have y0 := blk_cell hX 0 rfl
    have y1 := blk_cell hX 1 rfl
    have y2 := blk_cell hX 2 rfl
    have hR := hR5.trans HRV.out
    obtain ⟨w6, hw6, b6, g6, ⟨a0, a1, a2⟩, ⟨f0, f1, f2⟩, ⟨z0, z1, z2⟩⟩ := res_step hR (.int .i64 r.n) (.int .i64 r.to) (.slice ar nr cr)
    have J : Hid (LStep false p F w w6 ⟨st.last, st.fl.eraseIdx k⟩) := hide (s5.res belwV (Nat.le_refl _) (by omega) hF g6)
    have BY : Hid (Byt F w6 (.slice ar nr cr) r.bs) := hide (by
      have h1 := by5.agree (w' := w6) fun g hg => g6.block g (by obtain ⟨_, cs, fr, hc⟩ := by5.2 g hg; exact blk_lt hc) (by
        have := hF g (by5.2 g hg).1
        simp
        omega)
      rw [HRVV.out] at h1
      exact h1)
    clear hX5 hR5 hX hR s5 by5 b6 g6 DL
    go_wp2
    refine bodyPost_ret (v := .tuple #[.agg #[.int .i64 r.n, .int .i64 r.to, .slice ar nr cr], .int .i64 0]) (by simp [results, Try.results12, go_sem, z0, z1, z2]) rfl ?_
    exact ⟨_, rfl, J.out, BY.out⟩

set_option maxHeartbeats 1000000 in
theorem drop_any (p : Nat) (F : Nat → Prop) (w : World) (st : Lm.Ls) (n : Int) (h : Lk false p F w st) (hl : st.fl.length ≤ 512) :
    Calls Try.prog 13 #[.pointer (some ⟨p, 0, none⟩), .int .i64 n] w fun E w' => E = .returned (.int .i64 (Lm.del st n).1.2) ∧ LStep false p F w w' (Lm.del st n).2 := by
  have HD := hide (deliver_any p F w st n h hl)
  generalize Lm.del st n = x at *
  obtain ⟨⟨⟨xn, xt, xb⟩, xe⟩, xs⟩ := x
  clear h
  go_enter Try.func13, Try.ntmps13
  go_wp2_with fail
  refine HD.out.mono ?_
  rintro E w1 ⟨vx, rfl, s1, by1⟩
  obtain ⟨a1, n1, c1, rfl⟩ := by1.1.form
  obtain ⟨V, hV, hV2, szV, belV, bV, x0, x1, x2⟩ := new_three w1 31 (.int .i64 0) (.int .i64 0) (.slice none 0 0) (.int .i64 xn) (.int .i64 xt) (.slice a1 n1 c1)
  have J := hide (s1.then belV)
  clear s1 by1 bV belV
  go_wp2
  go_ret
  exact ⟨rfl, J.out⟩

end Go.Proofs.Ytadfbmglbaebiaa
