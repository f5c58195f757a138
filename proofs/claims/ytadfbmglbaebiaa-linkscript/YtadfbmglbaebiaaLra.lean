/- The document's link: its methods. -/
import Derived.Test.YtadfbmglbaebiaaLi
namespace Go.Proofs.Ytadfbmglbaebiaa
open Go.RowKit Go.Shelf
set_option linter.unusedVariables false

/-- A new link. -/
theorem lnewR_any (w : World) : Calls Try.prog 15 #[] w fun E w' => E = .returned (.pointer (some ⟨w.heap.size, 0, none⟩)) ∧ Lk true w.heap.size (fun g => g = w.heap.size) w' Lm.new ∧ Below w.heap.size w w' := by
  obtain ⟨w1, hw1, sz1, bel1, hB⟩ := blk_step w #[.bool true, .slice none 0 0, .int .i64 0] 65
  have D : Hid (Lk true w.heap.size (fun g => g = w.heap.size) w1 Lm.new) := ⟨.slice none 0 0, [], hB, rfl, OwnG.nil _ _ _ _ _, fun b hb => by simp [Value.ownBlock] at hb, fun r hr => by simp at hr, rfl, fun g hg => by omega⟩
  clear hB
  go_enter Try.func15, Try.ntmps15
  go_wp2
  go_ret
  exact ⟨rfl, D.out, bel1⟩

section
variable {p : Nat} {F : Nat → Prop} {w : World} {st : Lm.Ls} {v : Value} {rs : List Lw}
theorem LkV.r0 (h : LkV true p F w st v rs) : w.cell? ⟨p, 0, none⟩ = some (.bool true) := blk_cell h.blk 0 rfl
theorem LkV.r1 (h : LkV true p F w st v rs) : w.cell? ⟨p, 1, none⟩ = some v := blk_cell h.blk 1 rfl
theorem LkV.r2 (h : LkV true p F w st v rs) : w.cell? ⟨p, 2, none⟩ = some (.int .i64 st.last) := blk_cell h.blk 2 rfl
end

set_option maxHeartbeats 400000 in
theorem lnoneR_any (p : Nat) (F : Nat → Prop) (w : World) (st : Lm.Ls) (h : Lk true p F w st) : Calls Try.prog 40 #[.pointer (some ⟨p, 0, none⟩)] w fun E w' => E = .returned (.bool false) ∧ w = w' := by
  obtain ⟨v, rs, h⟩ := h
  have c0 := h.r0
  clear h
  go_enter Try.func40, Try.ntmps40
  go_wp2
  go_ret
  exact ⟨rfl, rfl⟩

set_option maxHeartbeats 1000000 in
theorem lownR_any (v : Value) (bs : List Int) (w : World) (h : Is .u8 w v bs) (hl : bs.length ≤ 140737488355328) :
    Calls Try.prog 41 #[v] w fun E w' => ∃ v', E = .returned v' ∧ Own .u8 5 w.heap.size w' v' bs ∧ Below w.heap.size w w' := by
  have X : Hid (∀ ty, ∃ v' w', (Builtin.append_ #[29, 29] ty #[.slice none 0 0, v]).run Try.prog w = .ok v' w' ∧ (Own .u8 5 w.heap.size w' v' bs ∧ Below w.heap.size w w')) := hide fun ty => by
    obtain ⟨v', w', hr, ho, hg, _⟩ := run_append_is_at (P := Try.prog) (w := w) 29 ty .u8 5 w.heap.size 1 Try.underlying29 Try.info5 (by decide) _ [] (Own.nil _ _ _ _) _ bs h (by simp; omega) (Nat.le_refl _)
    exact ⟨v', w', hr, by simpa using ho, (Below.refl _ _).grown hg (Nat.le_refl _) fun k hk => by simp [Value.ownBlock] at hk⟩
  obtain ⟨a, n, c, rfl⟩ := h.form
  clear h
  go_enter Try.func41, Try.ntmps41
  go_wp2_with (at_builtin; refine wpList_append_at rfl (.tmp 4) (.tmp 5) 29 rfl _ _ rfl rfl X.out ?_)
  intro v2 w2 own2 bel2
  go_wp2
  go_ret
  exact ⟨_, rfl, own2, bel2⟩

theorem Try.enters41 : ∀ args w, (callFunc 41 args).run Try.prog w = .ok (.enter 41 args) w := enters_of Try.func41 (by kernel_rfl) rfl

theorem Try.enters33 : ∀ args w, (callFunc 33 args).run Try.prog w = .ok (.enter 33 args) w := enters_of Try.func33 (by kernel_rfl) rfl

set_option maxRecDepth 100000 in
set_option maxHeartbeats 16000000 in
theorem sendR_any (p : Nat) (F : Nat → Prop) (w : World) (st : Lm.Ls) (to : Int) (v : Value) (bs : List Int) (h : Lk true p F w st) (hv : Is .u8 w v bs) (hb : bs.length ≤ 40) (hlast : st.last < 9223372036854775807) :
    Calls Try.prog 33 #[.pointer (some ⟨p, 0, none⟩), .int .i64 to, v] w fun E w' => E = .returned (.tuple #[.int .i64 (Lm.send st to bs).1.1, .int .i64 (Lm.send st to bs).1.2]) ∧ LStep true p F w w' (Lm.send st to bs).2 := by
  have HN := hide (lnoneR_any p F w st h)
  have HK := hide h
  obtain ⟨vr, rs, h⟩ := h
  have c1 := h.r1
  have c2 := h.r2
  have f2 := h.froz 2
  obtain ⟨ao, cap, hvr, hcap, hcm⟩ := h.row.row.shape
  have hlen := h.len
  obtain ⟨av, nv, cv, hvv⟩ := hv.form
  unfold Lm.send
  by_cases ht : to = 0 ∨ to = 1
  · rw [if_neg (by omega)]
    have hdec : (to != 0 && to != 1) = false := by rcases ht with rfl | rfl <;> rfl
    unfold Lm.put
    by_cases hfull : 512 ≤ st.fl.length
    · rw [if_pos hfull]
      rw [hvr] at c1
      rw [hvv]
      have hc : (512 : Int) ≤ rs.length := by omega
      clear h hv
      rcases ht with rfl | rfl
      · go_enter Try.func33, Try.ntmps33
        go_wp2_with fail
        refine HN.out.mono ?_
        rintro E w1 ⟨rfl, rfl⟩
        go_wp2
        go_ret2
        exact ⟨rfl, LStep.same HK.out (Below.refl _ _)⟩
      · go_enter Try.func33, Try.ntmps33
        go_wp2_with fail
        refine HN.out.mono ?_
        rintro E w1 ⟨rfl, rfl⟩
        go_wp2
        go_ret2
        exact ⟨rfl, LStep.same HK.out (Below.refl _ _)⟩
    · rw [if_neg hfull]
      obtain ⟨wa, hwa⟩ : ∃ wa, w.setCell ⟨p, 2, none⟩ (.int .i64 ((st.last : Int) + 1)) = wa := ⟨_, rfl⟩
      have hpa : wa.heap[p]? = some (.cells (lcells true vr (st.last + 1)) (ltyp true) (0, 0)) := by
        rw [← hwa, set_cells h.blk]
        simp [lcells]
      have oa : Out (fun g => g = p) w wa := by
        rw [← hwa]
        exact Out.of_grown (grown_setCell w ⟨p, 2, none⟩ _) fun g hg => by simp at hg; exact hg.symm
      have sza : wa.heap.size = w.heap.size := by rw [← hwa]; simp [World.setCell]
      have hp := h.lt p h.inp
      have isv : Is .u8 wa v bs := hv.keep (fun g hg hn => oa.block g hg hn) h.blk (lcells_u true vr (by rw [hvr]; simp) _)
      have CL : Hid (Calls Try.prog 41 #[v] wa.drew fun E wc => ∃ v6, E = .returned v6 ∧ (Own .u8 5 w.heap.size wc v6 bs ∧ Below w.heap.size wa wc ∧ wc.cell? ⟨p, 2, none⟩ = some (.int .i64 ((st.last : Int) + 1)) ∧ wc.cell? ⟨p, 1, none⟩ = some vr ∧ ∃ a n c, v6 = .slice a n c)) := hide (by
        refine (lownR_any v bs wa.drew (isv.drewN 1) (by omega)).mono ?_
        rintro E wc ⟨v6, rfl, own6, bel6⟩
        have bel6' : Below w.heap.size wa wc := by
          have := (below_drewN (Below.refl wa.heap.size wa) 1).trans bel6
          rw [sza] at this
          exact this
        have hpc := (bel6'.block p hp).trans hpa
        exact ⟨v6, rfl, by rw [← sza]; exact own6, bel6', by simpa [lcells] using blk_cell hpc 2 rfl, blk_cell hpc 1 rfl, own6.is.form⟩)
      have AP : Hid (∀ v6 wc, Own .u8 5 w.heap.size wc v6 bs → Below w.heap.size wa wc → ∃ V, wc.alloc (.cells #[.int .i64 ((st.last : Int) + 1), .int .i64 to, v6] 31) = V ∧ V.cell? ⟨p, 1, none⟩ = some vr ∧ Hid (∀ ty, ∃ v' w', (Builtin.append_ #[45, 45] ty #[vr, .slice (some ⟨wc.heap.size, 0, none⟩) 1 1]).run Try.prog V = .ok v' w' ∧ (LStep true p F w (w'.setCell ⟨p, 1, none⟩ v') ⟨st.last + 1, st.fl ++ [⟨(st.last : Int) + 1, to, bs⟩]⟩ ∧ w'.cell? ⟨p, 1, none⟩ = some vr ∧ w'.frozen? ⟨p, 1, none⟩ = false ∧ w'.cell? ⟨p, 2, none⟩ = some (.int .i64 ((st.last : Int) + 1)) ∧ ∃ a n c, v' = .slice a n c))) := hide fun v6 wc own6 bel6 => by
        obtain ⟨V, hV, szV, belV, hrow⟩ := rows_step letc 3 letc_len 31 wc #[.int .i64 ((st.last : Int) + 1), .int .i64 to, v6] 1 [⟨(st.last : Int) + 1, to, v6, bs⟩] rfl rfl (by simp [maxLen])
        have s6 := bel6.size
        have hpV := (belV.block p (by omega)).trans ((bel6.block p hp).trans hpa)
        refine ⟨V, hV, blk_cell hpV 1 rfl, hide fun ty => ?_⟩
        have hrv : OwnG letc 3 31 0 V vr rs := h.row.agree fun b hb => by
          have hbw := h.lt b (h.inr b hb)
          exact (belV.block b (by omega)).trans ((bel6.block b hbw).trans (oa.block b hbw (h.rowne b hb)))
        obtain ⟨v', w', hr, ho, hg, hat⟩ := run_append_rows_at (P := Try.prog) (w := V) 45 ty letc 3 40 letc_len (by decide) (by decide) (.agg #[.int .i64 0, .int .i64 0, .slice none 0 0]) rfl 31 0 Try.underlying45 Try.info31 vr rs hrv _ _ hrow.row (letc_one _ fun r hr => by simp at hr; subst hr; exact own6.is.form) (by simp; omega) (by omega)
        obtain ⟨K1, K2⟩ := h.pushed ⟨(st.last : Int) + 1, to, v6, bs⟩ (st.last + 1) oa sza hpa own6 bel6 belV ho hg hat 1 rfl
        obtain ⟨a, c, hv', _⟩ := ho.row.shape
        exact ⟨v', w', hr, K1, blk_cell K2 1 rfl, blk_froz K2 1, by simpa [lcells] using blk_cell K2 2 rfl, a, _, c, hv'⟩
      have d2 : wa.cell? ⟨p, 2, none⟩ = some (.int .i64 ((st.last : Int) + 1)) := by simpa [lcells] using blk_cell hpa 2 rfl
      have d1 : wa.cell? ⟨p, 1, none⟩ = some vr := blk_cell hpa 1 rfl
      have hc : ¬ (512 : Int) ≤ rs.length := by omega
      have hw1 : IntKind.i64.wrap ((st.last : Int) + 1) = (st.last : Int) + 1 := wrap64s _ (by omega) (by omega)
      rw [hvr] at c1 d1 CL AP
      rw [hvv] at CL ⊢
      clear h hv hpa oa isv hvr hvv hlen
      rcases ht with rfl | rfl
      · go_enter Try.func33, Try.ntmps33
        go_wp2_with fail
        refine HN.out.mono ?_
        rintro E w1 ⟨rfl, rfl⟩
        go_wp2
        go_region_law (first
          | (refine call_at rfl 41 #[.tmp 42] #[29] rfl Try.enters41 #[.slice av nv cv] (by first | (simp [Act.eval]; done) | (simp [Act.eval, Act.put]; done)) CL.out ?_; rintro v6 wc ⟨own6, bel6, g1, g2, a6, n6, k6, rfl⟩; obtain ⟨V, hV, gV, XX⟩ := AP.out _ wc own6 bel6; have OC := hide own6; clear own6)
          | (refine step_append_at rfl (.tmp 36) (.tmp 45) 45 rfl (.slice ao rs.length cap) (.slice (some ⟨wc.heap.size, 0, none⟩) 1 1) (by first | (simp [Act.eval]; done) | (simp [Act.eval, Act.put]; done)) (by first | (simp [Act.eval]; done) | (simp [Act.eval, Act.put]; done)) XX.out ?_; rintro v7 w7 ⟨J, d7, g7, e7, a7, n7, k7, rfl⟩; have J := hide J))
        all_goals
          go_wp2
          go_ret2
          exact ⟨rfl, J.out⟩
      · go_enter Try.func33, Try.ntmps33
        go_wp2_with fail
        refine HN.out.mono ?_
        rintro E w1 ⟨rfl, rfl⟩
        go_wp2
        go_region_law (first
          | (refine call_at rfl 41 #[.tmp 42] #[29] rfl Try.enters41 #[.slice av nv cv] (by first | (simp [Act.eval]; done) | (simp [Act.eval, Act.put]; done)) CL.out ?_; rintro v6 wc ⟨own6, bel6, g1, g2, a6, n6, k6, rfl⟩; obtain ⟨V, hV, gV, XX⟩ := AP.out _ wc own6 bel6; have OC := hide own6; clear own6)
          | (refine step_append_at rfl (.tmp 36) (.tmp 45) 45 rfl (.slice ao rs.length cap) (.slice (some ⟨wc.heap.size, 0, none⟩) 1 1) (by first | (simp [Act.eval]; done) | (simp [Act.eval, Act.put]; done)) (by first | (simp [Act.eval]; done) | (simp [Act.eval, Act.put]; done)) XX.out ?_; rintro v7 w7 ⟨J, d7, g7, e7, a7, n7, k7, rfl⟩; have J := hide J))
        all_goals
          go_wp2
          go_ret2
          exact ⟨rfl, J.out⟩
  · rw [if_pos (by omega)]
    have e0 : (to == 0) = false := by simp; omega
    have e1 : (to == 1) = false := by simp; omega
    have n0 : (to != 0) = true := by simp; omega
    have n1 : (to != 1) = true := by simp; omega
    rw [hvv]
    clear h hv c1 c2
    go_enter Try.func33, Try.ntmps33
    go_wp2_with fail
    refine HN.out.mono ?_
    rintro E w1 ⟨rfl, rfl⟩
    go_wp2
    all_goals
      go_ret2
      exact ⟨rfl, LStep.same HK.out (Below.refl _ _)⟩

end Go.Proofs.Ytadfbmglbaebiaa
