/- The program's link: put, Send. -/
import Derived.Test.YtadfbmglbaebiaaLb
import Derived.Shelf.Abstract
namespace Go.Proofs.Ytadfbmglbaebiaa
open Go.RowKit Go.Shelf
set_option linter.unusedVariables false

theorem Try.enters39 : ∀ args w, (callFunc 39 args).run Try.prog w = .ok (.enter 39 args) w := enters_of Try.func39 (by kernel_rfl) rfl

theorem Try.enters29 : ∀ args w, (callFunc 29 args).run Try.prog w = .ok (.enter 29 args) w := enters_of Try.func29 (by kernel_rfl) rfl

set_option maxRecDepth 100000 in
set_option maxHeartbeats 4000000 in
theorem lput_any (p : Nat) (F : Nat → Prop) (w : World) (st : Lm.Ls) (to : Int) (v : Value) (bs : List Int) (h : Lk false p F w st) (hv : Is .u8 w v bs) (hb : bs.length ≤ 40) (hlast : st.last < 9223372036854775807) :
    Calls Try.prog 29 #[.pointer (some ⟨p, 0, none⟩), .int .i64 to, v] w fun E w' => E = .returned (.tuple #[.int .i64 (Lm.put st to bs).1.1, .int .i64 (Lm.put st to bs).1.2]) ∧ LStep false p F w w' (Lm.put st to bs).2 := by
  have HK := hide h
  obtain ⟨vr, rs, h⟩ := h
  have c1 := h.p1
  have c2 := h.p2
  have f1 := h.froz 1
  obtain ⟨ao, cap, hvr, hcap, hcm⟩ := h.row.row.shape
  have hlen := h.len
  unfold Lm.put
  by_cases hfull : 512 ≤ st.fl.length
  · rw [if_pos hfull]
    rw [hvr] at c2
    have hc : (512 : Int) ≤ rs.length := by omega
    clear h hv
    go_enter Try.func29, Try.ntmps29
    go_wp2
    go_ret2
    exact ⟨rfl, LStep.same HK.out (Below.refl _ _)⟩
  · rw [if_neg hfull]
    obtain ⟨wa, hwa⟩ : ∃ wa, w.setCell ⟨p, 1, none⟩ (.int .i64 ((st.last : Int) + 1)) = wa := ⟨_, rfl⟩
    have hpa : wa.heap[p]? = some (.cells (lcells false vr (st.last + 1)) (ltyp false) (0, 0)) := by
      rw [← hwa, set_cells h.blk]
      simp [lcells]
    have oa : Out (fun g => g = p) w wa := by
      rw [← hwa]
      exact Out.of_grown (grown_setCell w ⟨p, 1, none⟩ _) fun g hg => by simp at hg; exact hg.symm
    have sza : wa.heap.size = w.heap.size := by rw [← hwa]; simp [World.setCell]
    have hp := h.lt p h.inp
    have isv : Is .u8 wa v bs := hv.keep (fun g hg hn => oa.block g hg hn) h.blk (lcells_u false vr (by rw [hvr]; simp) _)
    have CL : Hid (Calls Try.prog 39 #[v] wa.drew fun E wc => ∃ v6, E = .returned v6 ∧ (Own .u8 5 w.heap.size wc v6 bs ∧ Below w.heap.size wa wc ∧ wc.cell? ⟨p, 1, none⟩ = some (.int .i64 ((st.last : Int) + 1)) ∧ wc.cell? ⟨p, 2, none⟩ = some vr ∧ ∃ a n c, v6 = .slice a n c)) := hide (by
      refine (bclone_any v bs wa.drew (isv.drewN 1) (by omega)).mono ?_
      rintro E wc ⟨v6, rfl, own6, bel6⟩
      have bel6' : Below w.heap.size wa wc := by
        have := (below_drewN (Below.refl wa.heap.size wa) 1).trans bel6
        rw [sza] at this
        exact this
      have hpc := (bel6'.block p hp).trans hpa
      exact ⟨v6, rfl, by rw [← sza]; exact own6, bel6', by simpa [lcells] using blk_cell hpc 1 rfl, blk_cell hpc 2 rfl, own6.is.form⟩)
    have AP : Hid (∀ v6 wc, Own .u8 5 w.heap.size wc v6 bs → Below w.heap.size wa wc → ∃ V, wc.alloc (.cells #[.int .i64 ((st.last : Int) + 1), .int .i64 to, v6] 31) = V ∧ V.cell? ⟨p, 2, none⟩ = some vr ∧ Hid (∀ ty, ∃ v' w', (Builtin.append_ #[45, 45] ty #[vr, .slice (some ⟨wc.heap.size, 0, none⟩) 1 1]).run Try.prog V = .ok v' w' ∧ (LStep false p F w (w'.setCell ⟨p, 2, none⟩ v') ⟨st.last + 1, st.fl ++ [⟨(st.last : Int) + 1, to, bs⟩]⟩ ∧ w'.cell? ⟨p, 2, none⟩ = some vr ∧ w'.frozen? ⟨p, 2, none⟩ = false ∧ w'.cell? ⟨p, 1, none⟩ = some (.int .i64 ((st.last : Int) + 1)) ∧ ∃ a n c, v' = .slice a n c))) := hide fun v6 wc own6 bel6 => by
      obtain ⟨V, hV, szV, belV, hrow⟩ := rows_step letc 3 letc_len 31 wc #[.int .i64 ((st.last : Int) + 1), .int .i64 to, v6] 1 [⟨(st.last : Int) + 1, to, v6, bs⟩] rfl rfl (by simp [maxLen])
      have s6 := bel6.size
      have hpV := (belV.block p (by omega)).trans ((bel6.block p hp).trans hpa)
      refine ⟨V, hV, blk_cell hpV 2 rfl, hide fun ty => ?_⟩
      have hrv : OwnG letc 3 31 0 V vr rs := h.row.agree fun b hb => by
        have hbw := h.lt b (h.inr b hb)
        exact (belV.block b (by omega)).trans ((bel6.block b hbw).trans (oa.block b hbw (h.rowne b hb)))
      obtain ⟨v', w', hr, ho, hg, hat⟩ := run_append_rows_at (P := Try.prog) (w := V) 45 ty letc 3 40 letc_len (by decide) (by decide) (.agg #[.int .i64 0, .int .i64 0, .slice none 0 0]) rfl 31 0 Try.underlying45 Try.info31 vr rs hrv _ _ hrow.row (letc_one _ fun r hr => by simp at hr; subst hr; exact own6.is.form) (by simp; omega) (by omega)
      obtain ⟨K1, K2⟩ := h.pushed ⟨(st.last : Int) + 1, to, v6, bs⟩ (st.last + 1) oa sza hpa own6 bel6 belV ho hg hat 2 rfl
      obtain ⟨a, c, hv', _⟩ := ho.row.shape
      exact ⟨v', w', hr, K1, blk_cell K2 2 rfl, blk_froz K2 2, by simpa [lcells] using blk_cell K2 1 rfl, a, _, c, hv'⟩
    have d1 : wa.cell? ⟨p, 1, none⟩ = some (.int .i64 ((st.last : Int) + 1)) := by simpa [lcells] using blk_cell hpa 1 rfl
    have d2 : wa.cell? ⟨p, 2, none⟩ = some vr := blk_cell hpa 2 rfl
    have hc : ¬ (512 : Int) ≤ rs.length := by omega
    have hw1 : IntKind.i64.wrap ((st.last : Int) + 1) = (st.last : Int) + 1 := wrap64s _ (by omega) (by omega)
    obtain ⟨av, nv, cv, hvv⟩ := hv.form
    rw [hvr] at c2 d2 CL AP
    rw [hvv] at CL ⊢
    clear h hv hpa oa isv hvr hvv hlen
    go_enter Try.func29, Try.ntmps29
    go_wp2
    go_region_law (first
      | (refine call_at rfl 39 #[.tmp 31] #[29] rfl Try.enters39 #[.slice av nv cv] (by first | (simp [Act.eval]; done) | (simp [Act.eval, Act.put]; done)) CL.out ?_; rintro v6 wc ⟨own6, bel6, g1, g2, a6, n6, k6, rfl⟩; obtain ⟨V, hV, gV, XX⟩ := AP.out _ wc own6 bel6; have OC := hide own6; clear own6)
      | (refine step_append_at rfl (.tmp 25) (.tmp 34) 45 rfl (.slice ao rs.length cap) (.slice (some ⟨wc.heap.size, 0, none⟩) 1 1) (by first | (simp [Act.eval]; done) | (simp [Act.eval, Act.put]; done)) (by first | (simp [Act.eval]; done) | (simp [Act.eval, Act.put]; done)) XX.out ?_; rintro v7 w7 ⟨J, d7, g7, e7, a7, n7, k7, rfl⟩; have J := hide J))
    all_goals
      go_wp2
      go_ret2
      exact ⟨rfl, J.out⟩

set_option maxHeartbeats 1000000 in
theorem send_any (p : Nat) (F : Nat → Prop) (w : World) (st : Lm.Ls) (to : Int) (v : Value) (bs : List Int) (h : Lk false p F w st) (hv : Is .u8 w v bs) (hb : bs.length ≤ 40) (hlast : st.last < 9223372036854775807) :
    Calls Try.prog 10 #[.pointer (some ⟨p, 0, none⟩), .int .i64 to, v] w fun E w' => E = .returned (.tuple #[.int .i64 (Lm.send st to bs).1.1, .int .i64 (Lm.send st to bs).1.2]) ∧ LStep false p F w w' (Lm.send st to bs).2 := by
  have HM := hide (made_any p F w st h)
  have HS := hide (site_any to w)
  have HP := hide (lput_any p F w st to v bs h hv hb hlast)
  have HK := hide h
  obtain ⟨av, nv, cv, hvv⟩ := hv.form
  subst hvv
  clear h hv
  unfold Lm.send
  by_cases ht : to = 0 ∨ to = 1
  · rw [if_neg (by omega)]
    rw [decide_eq_true ht] at HS
    generalize Lm.put st to bs = x at *
    obtain ⟨⟨x1, x2⟩, x3⟩ := x
    clear ht
    go_enter Try.func10, Try.ntmps10
    go_wp2_with fail
    refine HM.out.mono ?_
    rintro E w1 ⟨rfl, rfl⟩
    go_wp2_with fail
    refine HS.out.mono ?_
    rintro E w1 ⟨rfl, rfl⟩
    go_wp2_with fail
    refine HP.out.mono ?_
    rintro E w2 ⟨rfl, J⟩
    have J := hide J
    go_wp2
    go_ret2
    exact ⟨rfl, J.out⟩
  · rw [if_pos (by omega)]
    rw [decide_eq_false ht] at HS
    clear ht
    go_enter Try.func10, Try.ntmps10
    go_wp2_with fail
    refine HM.out.mono ?_
    rintro E w1 ⟨rfl, rfl⟩
    go_wp2_with fail
    refine HS.out.mono ?_
    rintro E w1 ⟨rfl, rfl⟩
    go_wp2
    go_ret2
    exact ⟨rfl, LStep.same HK.out (Below.refl _ _)⟩

end Go.Proofs.Ytadfbmglbaebiaa
