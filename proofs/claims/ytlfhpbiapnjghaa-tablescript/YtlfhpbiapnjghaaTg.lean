/- The statement's own: a table's keys that have values, as puts (live). -/
import Derived.Test.YtlfhpbiapnjghaaTf
namespace Go.Proofs.Ytlfhpbiapnjghaa
open Go.RowKit Go.Maps Go.Shelf
open Bm (Ov)
set_option linter.unusedVariables false
attribute [local go_sem] Oper.semAt_some

set_option maxRecDepth 100000 in
set_option maxHeartbeats 8000000 in
theorem llive_any (tv : Value) (w : World) (t : List Ov) (hL : t.length ≤ 1000000) (hm : ∀ w1, Below w.heap.size w w1 → Calls Try.prog 37 #[tv] w1 fun E w' => ∃ v, E = .returned v ∧ OwnO 28 w1.heap.size w' v t ∧ Below w1.heap.size w1 w') :
    Calls Try.prog 14 #[tv] w fun E w' => ∃ v, E = .returned v ∧ OwnO 28 w.heap.size w' v (Tm.live t) ∧ Below w.heap.size w w' := by
  obtain ⟨m, hmm⟩ : ∃ m, Tm.live t = m := ⟨_, rfl⟩
  have hmL : m.length ≤ 1000000 := by rw [← hmm]; exact Nat.le_trans (List.length_filter_le _ _) hL
  have HP : Hid (∀ x : Nx m.length, (pt m x).p = true) := hide (by subst hmm; exact live_p t)
  rw [hmm]
  obtain ⟨W2, hW2, sz2, b2, B2⟩ := blk_step w #[.slice none 0 0] 33
  have HALL := hide (tlive_of tv W2 t (hm W2 b2))
  have HB2 := hide B2
  have Hb02 := hide b2
  clear hm B2 b2
  refine (callsIn_wide (n := 6)).1 ?_
  refine callsIn_of_wp_marks Try.func14 rfl trivial ?_ rfl
  simp only [Try.ntmps14, List.size_toArray, List.length_cons, List.length_nil, Nat.reduceAdd, Nat.reduceSub, Array.replicate_succ, Array.replicate_zero, List.push_toArray, List.append_toArray, List.nil_append, List.cons_append]
  gi_wp2_with fail
  refine ⟨trivial, (callsIn_wide.2 HALL.out).mono ?_⟩
  rintro E W3 ⟨B, rfl, sq, b3⟩
  have sz3 : w.heap.size + 1 ≤ W3.heap.size := by have := b3.size; omega
  have HSEQ := hide (lvs_seq 5 (by omega) B W2.heap.size t W3 sq hL)
  have SQL := hide sq.lt
  have HO3 := hide ((b3.block w.heap.size (by omega)).trans HB2.out)
  have Hb3 := hide (Hb02.out.trans (b3.mono (by omega)))
  clear sq b3 hW2
  have hob : w.heap.size < W3.heap.size := by omega
  have HKN : Hid (∀ W W', Out (fun g => g = w.heap.size) W3 W → Out (fun g => g = w.heap.size) W3 W' → Kn (SeqTB B W3) W W') := hide fun W W' h1 h2 g hg => by
    obtain ⟨q1, q2⟩ := SQL.out g hg
    have hne : ¬ g = w.heap.size := by omega
    rw [h1.block g q2 hne, h2.block g q2 hne]
  rw [hmm] at HSEQ
  gi_wp2_with fail
  apply wpIn_rangeFunc_ownH rfl (by omega) (gf := 38) (lb := #[.pointer (some ⟨B, 0, none⟩)]) rfl trivial (enters_of Try.func38 (by kernel_rfl) rfl) (encs := fun x : Nx m.length => #[.string (pt m x).k, .string (pt m x).v]) (Kp := Kn (SeqTB B W3)) (S := fun xs => xs = upn m.length m.length) (Sp := fun pre => ∃ k, k ≤ m.length ∧ pre = upn m.length k) (N := m.length) (w0 := W3) HSEQ.out Kn.trans (kn_b (fun g hg => (SQL.out g hg).2)) (Below.refl _ _) (fun _ => rfl)
    (fun pre W => RI w.heap.size W3 (pts m pre) W)
    (fun c pre W => False)
    (fun s X Y row hs hg hr => hs.grown hob hg hr)
    (fun c s X Y row hs hg hr => hs)
    ⟨.slice none 0 0, HO3.out, OwnO.nil _ _ _, Out.refl _ _⟩
    (fun x a' W => a' = { tmps := #[tv, undef, .slice none 0 0, .pointer (some ⟨w.heap.size, 0, none⟩), .string (pt m x).k, .string (pt m x).v, tv, .func (.func 38) #[] #[.pointer (some ⟨B, 0, none⟩)], .string (pt m x).k, .string (pt m x).v, undef, undef, undef, undef, undef, undef, undef], defers := [] })
    (fun x a' s X Y row hs hg hr => hs)
  case hassign =>
    rintro l0 pre x W K hI hK
    obtain ⟨o, ho⟩ : ∃ o, pt m x = o := ⟨_, rfl⟩
    rw [ho] at hK ⊢
    have hO1 : Out (fun g => g = w.heap.size) W3 W := by obtain ⟨_, _, _, h⟩ := hI; exact h
    have HKK := hide (hK _ W (KeepsFrom.refl _ _) (HKN.out _ _ hO1 hO1) hI rfl)
    clear hK hI hO1
    gi_wp2
    exact HKK.out
  case hbody =>
    rintro l0 pre x a' W _ _ ⟨v, h1, h2, h3⟩ rfl hlt0
    have hlen : (pts m pre).length = pre.length := pts_len m pre
    obtain ⟨ao, cap, hv, _, _⟩ := h2.is.shape
    rw [hlen] at hv
    have hW3 := h3.size
    have c1 := blk_cell h1 0 rfl
    have hsn := pts_snoc m pre x
    have hp := HP.out x
    obtain ⟨o, ho⟩ : ∃ o, pt m x = o := ⟨_, rfl⟩
    rw [ho] at hsn hp ⊢
    obtain ⟨V, hV, szV, bV, ownV⟩ := ops_step 28 W #[.bool true, .string o.k, .string o.v] 1 [o] rfl (by simp [ocells, ocell, hp]) (by simp [maxLen])
    have own2 := h2.below bV
    have cV := (ownV.is)
    have hcells : ∀ j u, (ocells [o])[j]? = some u → V.cell? ((⟨W.heap.size, 0, none⟩ : Addr).add j) = some u := by
      rcases cV with ⟨h, _⟩ | ⟨ad, cp, h, _, _, hc⟩
      · cases h
      · cases h
        exact hc
    have hb40 : ((pts m pre).length + [o].length) * 40 ≤ 140737488355328 := by rw [hlen]; simp; omega
    have hzV : W3.heap.size ≤ V.heap.size := by omega
    have HFIN : Hid (∀ v' w', OwnO 28 W3.heap.size w' v' (pts m pre ++ [o]) → Below W3.heap.size V w' → V.grownBy w' v.ownBlock → (w'.cell? ⟨w.heap.size, 0, none⟩ = some v ∧ w'.frozen? ⟨w.heap.size, 0, none⟩ = false) ∧ KeepsFrom W3.heap.size W (w'.setCell ⟨w.heap.size, 0, none⟩ v') ∧ Kn (SeqTB B W3) W (w'.setCell ⟨w.heap.size, 0, none⟩ v') ∧ RI w.heap.size W3 (pts m (pre ++ [x])) (w'.setCell ⟨w.heap.size, 0, none⟩ v')) := hide fun v' w' ho' hb' hg' => by
      obtain ⟨r1, r2⟩ := RI.app hob hW3 h1 h3 bV ho' hb'
      have hO2 : Out (fun g => g = w.heap.size) W3 (w'.setCell ⟨w.heap.size, 0, none⟩ v') := by obtain ⟨_, _, _, h⟩ := r1; exact h
      refine ⟨⟨blk_cell r2 0 rfl, blk_froz r2 0⟩, ?_, HKN.out _ _ h3 hO2, by rw [hsn]; exact r1⟩
      have k1 : KeepsOthers W V := ⟨bV.size, fun k o hk _ => (bV.block k (blk_lt hk)).trans hk⟩
      have k2 : KeepsOthers V w' := grown_ko hg' fun g hg => by obtain ⟨cs, fr, h⟩ := own2.cel hg; exact ⟨cs, _, fr, h⟩
      exact ((k1.trans k2).trans (KeepsOthers.setCell _ _ _)).from _
    have hinf := Try.info28
    have HV := hide hv
    rw [hv] at c1 own2
    clear h2 h3 h1 hsn hlen bV ownV cV hv hp ho
    gi_wp2_with (gi_at_builtin; refine wpListIn_append_ops rfl (.tmp 10) (.tmp 14) 33 rfl 28 W3.heap.size Try.underlying33 hinf _ (pts m pre) rfl own2 ⟨W.heap.size, 0, none⟩ [o] 1 rfl hcells hb40 hzV ?_)
    intro v' w' ho' hb' hg'
    obtain ⟨ao2, cap2, hsh2, _, _⟩ := ho'.is.shape
    obtain ⟨L2, hL2⟩ : ∃ L2, (pts m pre ++ [o]).length = L2 := ⟨_, rfl⟩
    rw [hL2] at hsh2
    clear hL2
    subst hsh2
    have HH := hide (HFIN.out _ w' ho' hb' (by rw [HV.out]; exact hg'))
    have cz := HH.out.1.1
    have fz := HH.out.1.2
    rw [HV.out] at cz
    clear ho' hb' hg' c1 own2 hcells
    gi_wp2
    exact HH.out.2
  case hdone =>
    rintro D xs W hD rfl ⟨v, h1, h2, h3⟩ hK
    rw [pts_all] at h2
    have c1 := blk_cell h1 0 rfl
    have hE : Hid (OwnO 28 w.heap.size W v m ∧ Below w.heap.size w W) := hide ⟨h2.rebase (by omega), Hb3.out.trans (h3.below (fun g hg => by omega) (by omega))⟩
    have HKD := hide hK
    have hD' : w.heap.size ≤ D := by omega
    clear h1 h2 h3 hK
    gi_wp2
    refine ⟨by simp, .inl ⟨_, _, rfl, run_takeDeferred HKD.out, ?_⟩⟩
    obtain ⟨f1, f2⟩ := fin_put hE.out hD' HKD.out
    refine ⟨v, ?_, v, rfl, f1, f2⟩
    simp [results, Try.results14, go_sem]
  case hstop =>
    rintro D c pre W hD _ hf hK
    exact hf.elim

end Go.Proofs.Ytlfhpbiapnjghaa
