/- Texts of one layer, one behind the other. -/
import Derived.Test.YthmecljkackmbaaGreatGT
import Derived.Test.YthmecljkackmbaaGreatG17
import Derived.Test.YthmecljkackmbaaGreatGK2
/- slices.Collect of what a table goes over. -/
namespace Go.Proofs.YthmecljkackmbaaGreat
open Go.RowKit Go.Maps Go.Shelf
open Bm (Ov)
set_option linter.unusedVariables false
attribute [local go_sem] Oper.semAt_some

set_option maxRecDepth 100000 in
set_option maxHeartbeats 8000000 in
theorem appseq_any (B base : Nat) (w : World) (t : List Ov) (sq : SeqT B base w t) (hL : t.length ≤ 1000000) :
    Calls Tryz.prog 115 #[.slice none 0 0, .func (.func 166) #[] #[.pointer (some ⟨B, 0, none⟩)]] w fun E w' => ∃ v, E = .returned v ∧ OwnO 81 w.heap.size w' v t ∧ Below w.heap.size w w' := by
  obtain ⟨W3, hW3, sz3, b3, B3⟩ := blk_step w #[.slice none 0 0] 53
  have sq3 := sq.below b3
  have HSEQ := hide (vals_seq 5 (by omega) B base t W3 sq3 hL)
  have SQL : Hid (∀ g, SeqTB B W3 g → g < w.heap.size) := hide fun g hg => by
    obtain ⟨h1, v, h2, h3⟩ := sq
    rcases hg with rfl | ⟨u, hu, hg⟩
    · exact blk_lt h2
    · have c0 : W3.cell? ⟨B, 0, none⟩ = some v := (b3.cell (p := ⟨B, 0, none⟩) (blk_lt h2)).trans (blk_cell h2 0 rfl)
      rw [c0] at hu
      cases hu
      exact (h3.block g hg).2
  have HO3 := hide B3
  have Hb3 := hide b3
  have hob : w.heap.size < W3.heap.size := by omega
  have hszz := hide sz3
  have HKN : Hid (∀ W W', Out (fun g => g = w.heap.size) W3 W → Out (fun g => g = w.heap.size) W3 W' → Kn (SeqTB B W3) W W') := hide fun W W' h1 h2 g hg => by
    have q2 := SQL.out g hg
    have hne : ¬ g = w.heap.size := by omega
    rw [h1.block g (by omega) hne, h2.block g (by omega) hne]
  clear sq sq3 B3 b3 sz3
  refine (callsIn_wide (n := 6)).1 ?_
  refine callsIn_of_wp_marks Tryz.func115 rfl trivial ?_ rfl
  simp only [Tryz.ntmps115, List.size_toArray, List.length_cons, List.length_nil, Nat.reduceAdd, Nat.reduceSub, Array.replicate_succ, Array.replicate_zero, List.push_toArray, List.append_toArray, List.nil_append, List.cons_append]
  gi_wp2_with fail
  apply wpIn_rangeFunc_ownH rfl (by omega) (gf := 166) (lb := #[.pointer (some ⟨B, 0, none⟩)]) rfl trivial (enters_of Tryz.func166 (by kernel_rfl) rfl) (encs := fun x : Nx t.length => #[ovv (pt t x)]) (Kp := Kn (SeqTB B W3)) (S := fun xs => xs = upn t.length t.length) (Sp := fun pre => ∃ k, k ≤ t.length ∧ pre = upn t.length k) (N := t.length) (w0 := W3) HSEQ.out Kn.trans (kn_b (fun g hg => by have := SQL.out g hg; omega)) (Below.refl _ _) (fun _ => rfl)
    (fun pre W => RI w.heap.size W3 (pts t pre) W)
    (fun c pre W => False)
    (fun s X Y row hs hg hr => hs.grown hob hg hr)
    (fun c s X Y row hs hg hr => hs)
    ⟨.slice none 0 0, HO3.out, OwnO.nil _ _ _, Out.refl _ _⟩
    (fun x a' W => ∃ q, a' = { tmps := #[.slice none 0 0, .func (.func 166) #[] #[.pointer (some ⟨B, 0, none⟩)], .pointer (some ⟨w.heap.size, 0, none⟩), undef, .slice none 0 0, .pointer (some ⟨q, 0, none⟩), .func (.func 166) #[] #[.pointer (some ⟨B, 0, none⟩)], ovv (pt t x), undef, undef, undef, undef, undef], defers := [] } ∧ W.heap[q]? = some (.cells #[.bool (pt t x).p, .string (pt t x).k, .string (pt t x).v] 81 (0, 0)))
    (fun x a' s X Y row hs hg hr => by
      obtain ⟨q, h1, h2⟩ := hs
      refine ⟨q, h1, (hg.block q (blk_lt h2) fun e => ?_).trans h2⟩
      obtain ⟨_, o, h3, h4⟩ := hr q e.symm
      rw [h2] at h3
      cases h3
      simp [Obj.isCells] at h4)
  case hassign =>
    rintro l0 pre x W K hI hK
    obtain ⟨o, ho⟩ : ∃ o, pt t x = o := ⟨_, rfl⟩
    rw [ho] at hK ⊢
    unfold ovv at hK ⊢
    obtain ⟨V, hV, szV, bV, BV⟩ := blk_step W #[.bool o.p, .string o.k, .string o.v] 81
    have hI2 : RI w.heap.size W3 (pts t pre) V := by rw [← hV]; exact hI.grown hob (World.grownBy_alloc _ _ none) (fun r e => by cases e)
    have hO1 : Out (fun g => g = w.heap.size) W3 W := by obtain ⟨_, _, _, h⟩ := hI; exact h
    have hO2 : Out (fun g => g = w.heap.size) W3 V := by obtain ⟨_, _, _, h⟩ := hI2; exact h
    have HKK := hide (hK _ V ((KeepsOthers.from ⟨bV.size, fun k o hk _ => (bV.block k (blk_lt hk)).trans hk⟩ _)) (HKN.out _ _ hO1 hO2) hI2 ⟨W.heap.size, rfl, BV⟩)
    clear hK hI hI2 hO1 hO2 bV BV
    gi_wp2
    exact HKK.out
  case hbody =>
    rintro l0 pre x a' W _ _ ⟨v, h1, h2, h3⟩ ⟨q, rfl, hq⟩ hlt0
    have hlen : (pts t pre).length = pre.length := pts_len t pre
    obtain ⟨ao, cap, hv, _, _⟩ := h2.is.shape
    rw [hlen] at hv
    have hW3s := h3.size
    have c1 := blk_cell h1 0 rfl
    have q0 := blk_cell hq 0 rfl
    have q1 := blk_cell hq 1 rfl
    have q2 := blk_cell hq 2 rfl
    have hsn := pts_snoc t pre x
    obtain ⟨o, ho⟩ : ∃ o, pt t x = o := ⟨_, rfl⟩
    rw [ho] at q0 q1 q2 hsn ⊢
    obtain ⟨V, hV, szV, bV, ownV⟩ := ops_step 81 W #[.bool o.p, .string o.k, .string o.v] 1 [o] rfl rfl (by simp [maxLen])
    have own2 := h2.below bV
    have cV := (ownV.is)
    have hcells : ∀ j u, (ocells [o])[j]? = some u → V.cell? ((⟨W.heap.size, 0, none⟩ : Addr).add j) = some u := by
      rcases cV with ⟨h, _⟩ | ⟨ad, cp, h, _, _, hc⟩
      · cases h
      · cases h
        exact hc
    have hb40 : ((pts t pre).length + [o].length) * 40 ≤ 140737488355328 := by rw [hlen]; simp; omega
    have hzV : W3.heap.size ≤ V.heap.size := by omega
    have HFIN : Hid (∀ v' w', OwnO 81 W3.heap.size w' v' (pts t pre ++ [o]) → Below W3.heap.size V w' → V.grownBy w' v.ownBlock → (w'.cell? ⟨w.heap.size, 0, none⟩ = some v ∧ w'.frozen? ⟨w.heap.size, 0, none⟩ = false) ∧ KeepsFrom W3.heap.size W (w'.setCell ⟨w.heap.size, 0, none⟩ v') ∧ Kn (SeqTB B W3) W (w'.setCell ⟨w.heap.size, 0, none⟩ v') ∧ RI w.heap.size W3 (pts t (pre ++ [x])) (w'.setCell ⟨w.heap.size, 0, none⟩ v')) := hide fun v' w' ho' hb' hg' => by
      obtain ⟨r1, r2⟩ := RI.app hob hW3s h1 h3 bV ho' hb'
      have hO2 : Out (fun g => g = w.heap.size) W3 (w'.setCell ⟨w.heap.size, 0, none⟩ v') := by obtain ⟨_, _, _, h⟩ := r1; exact h
      refine ⟨⟨blk_cell r2 0 rfl, blk_froz r2 0⟩, ?_, HKN.out _ _ h3 hO2, by rw [hsn]; exact r1⟩
      have k1 : KeepsOthers W V := ⟨bV.size, fun k o hk _ => (bV.block k (blk_lt hk)).trans hk⟩
      have k2 : KeepsOthers V w' := grown_ko hg' fun g hg => by obtain ⟨cs, fr, h⟩ := own2.cel hg; exact ⟨cs, _, fr, h⟩
      exact ((k1.trans k2).trans (KeepsOthers.setCell _ _ _)).from _
    have hinf := Tryz.info81
    have HV := hide hv
    rw [hv] at c1 own2
    clear h2 h3 h1 hq hsn hlen bV ownV cV hv
    gi_wp2_with (gi_at_builtin; refine wpListIn_append_ops rfl (.tmp 8) (.tmp 10) 53 rfl 81 W3.heap.size Tryz.underlying53 hinf _ (pts t pre) rfl own2 ⟨W.heap.size, 0, none⟩ [o] 1 rfl hcells hb40 hzV ?_)
    intro v' w' ho' hb' hg'
    obtain ⟨ao2, cap2, hsh2, _, _⟩ := ho'.is.shape
    obtain ⟨L2, hL2⟩ : ∃ L2, (pts t pre ++ [o]).length = L2 := ⟨_, rfl⟩
    rw [hL2] at hsh2
    clear hL2
    subst hsh2
    have HH := hide (HFIN.out _ w' ho' hb' (by rw [HV.out]; exact hg'))
    have cz := HH.out.1.1
    have fz := HH.out.1.2
    rw [HV.out] at cz
    clear ho' hb' hg' c1 q0 q1 q2 own2 hcells
    gi_wp2
    exact HH.out.2
  case hdone =>
    rintro D xs W hD rfl ⟨v, h1, h2, h3⟩ hK
    rw [pts_all] at h2
    have c1 := blk_cell h1 0 rfl
    have hE : Hid (OwnO 81 w.heap.size W v t ∧ Below w.heap.size w W) := hide ⟨h2.rebase (by omega), Hb3.out.trans (h3.below (fun g hg => by omega) (by omega))⟩
    have HKD := hide hK
    have hD' : w.heap.size ≤ D := by omega
    clear h1 h2 h3 hK
    gi_wp2
    refine ⟨by simp, .inl ⟨_, _, rfl, run_takeDeferred HKD.out, ?_⟩⟩
    obtain ⟨f1, f2⟩ := fin_put hE.out hD' HKD.out
    refine ⟨v, ?_, v, rfl, f1, f2⟩
    simp [results, Tryz.results115, go_sem]
  case hstop =>
    rintro D c pre W hD _ hf hK
    exact hf.elim

theorem collect_any (B base : Nat) (w : World) (t : List Ov) (sq : SeqT B base w t) (hL : t.length ≤ 1000000) :
    Calls Tryz.prog 52 #[.func (.func 166) #[] #[.pointer (some ⟨B, 0, none⟩)]] w fun E w' => ∃ v, E = .returned v ∧ OwnO 81 w.heap.size w' v t ∧ Below w.heap.size w w' := by
  have HA := hide (appseq_any B base w t sq hL)
  clear sq
  go_enter Tryz.func52, Tryz.ntmps52
  go_wp2_with fail
  refine HA.out.mono ?_
  rintro E w1 ⟨v, rfl, o1, b1⟩
  have O1 := hide o1
  obtain ⟨a, k, hv, _, _⟩ := o1.is.shape
  subst hv
  clear o1
  go_wp2
  go_ret
  exact ⟨_, rfl, O1.out, b1⟩

end Go.Proofs.YthmecljkackmbaaGreat

/- Len of a table. -/
namespace Go.Proofs.YthmecljkackmbaaGreat
open Go.RowKit Go.Maps
open Bm (Ov)
set_option linter.unusedVariables false

theorem tlen_any (p b : Nat) (w : World) (t : List Ov) (h : Tb p b w t) :
    Calls Tryz.prog 51 #[.pointer (some ⟨p, 0, none⟩)] w fun E w' => E = .returned (.int .i64 t.length) ∧ w = w' := by
  have hc := h.cell
  have hl := fun ty => h.own.len Tryz.underlying137 ty
  rw [Tm.dat_size] at hl
  have HM := hide (tmade_any p b w hc)
  clear h
  go_enter Tryz.func51, Tryz.ntmps51
  go_wp2_with fail
  refine HM.out.mono ?_
  rintro E w' ⟨rfl, rfl⟩
  go_wp2
  go_ret
  exact ⟨rfl, rfl⟩

end Go.Proofs.YthmecljkackmbaaGreat

/- Of a store: Flush. -/
namespace Go.Proofs.YthmecljkackmbaaGreat
open Go.RowKit
open Bm (Ov)
set_option linter.unusedVariables false

theorem Sto.Ok.front {s : Sto.Ss} (h : Sto.Ok s) (k : Nat) : ∀ c ∈ s.l.take k, c.n ≤ Cm.lastN 0 s.r.l + k := fun c hc => by
  have := (Sto.good_all (Cm.good_take h.rest k) c hc).2.2.1
  rw [List.length_take] at this
  omega

theorem Sto.Ok.back {s : Sto.Ss} (h : Sto.Ok s) (k : Nat) (hk : k ≤ s.l.length) : ∀ c ∈ s.l.drop k, Cm.lastN 0 s.r.l + k < c.n := fun c hc => by
  have := (Sto.good_all (Sto.good_drop h.rest k hk) c hc).2.1
  omega

set_option maxRecDepth 20000 in
set_option maxHeartbeats 8000000 in
theorem sflush_any (ps p q : Nat) (F : Nat → Prop) (w : World) (s : Sto.Ss) (u : Int) (h : SW ps p q F w s) (hs : RBig s.r) (hu : In64 u) (hn : s.l.length ≤ 100000) :
    Calls Tryz.prog 12 #[.pointer (some ⟨ps, 0, none⟩), .int .i64 u] w fun E w' => E = .returned (.int .i64 (Sto.flu s u).1) ∧ StS ps p q F w w' (Sto.flu s u).2 := by
  have HR := hide (sready_any ps p q F w s h)
  have ok := h.ok
  obtain ⟨b1, b2, b3, b4⟩ := ok.bound
  have HSW := hide h
  have HOK := hide ok
  have HFO := hide (Sto.flu_ok ok u)
  have HU := hide hu
  have HBIG := hide hs
  obtain ⟨z, hz⟩ : ∃ z, Cm.lastN 0 s.r.l = z := ⟨_, rfl⟩
  obtain ⟨f, hf⟩ : ∃ f, Sto.fin s = f := ⟨_, rfl⟩
  have HZ := hide hz
  have HFN := hide hf
  rw [hz] at b1 b2
  rw [hf] at b3
  have hflu := Sto.flu.eq_1 s u
  rw [hz, hf] at hflu
  have HF0 := hide hflu
  have HFZ : Hid (f = z + s.l.length) := hide (by rw [← hf, ← hz]; rfl)
  clear h hs hu ok hz hf hflu
  go_enter Tryz.func12, Tryz.ntmps12
  go_wp2_with fail
  refine HR.out.mono ?_
  rintro E w1 ⟨rfl, bel1⟩
  have W1 := HSW.out.below bel1
  have HN := hide (send_any ps p q F w1 s W1)
  rw [HFN.out] at HN
  have HW1 := hide W1
  obtain ⟨F1, G1, h1, ⟨pm, bm, v, rs, hs, rfl⟩, hd, _, rfl⟩ := W1
  have HE := hide (hrend_any p q F1 w1 s.r h1)
  rw [HZ.out] at HE
  have x0 := blk_cell hs.blk 0 rfl
  have x1 := blk_cell hs.blk 1 rfl
  simp only [List.getElem_toArray, List.getElem_cons_zero, List.getElem_cons_succ] at x0 x1
  have HH := hide (And.intro h1 (And.intro hs hd))
  have B1 := hide bel1
  clear HR h1 hs hd bel1
  go_wp2_with fail
  refine HE.out.mono ?_
  rintro E w2 ⟨rfl, rfl⟩
  clear HE
  by_cases hlo : u < z
  · have e1 : Sto.flu s u = (2, s) := by rw [HF0.out, if_pos (.inl hlo)]
    have E1 := hide e1
    clear e1
    go_wp2
    go_ret
    rw [E1.out]
    exact ⟨rfl, StS.same HSW.out B1.out⟩
  go_wp2_with fail
  refine HN.out.mono ?_
  rintro E w2 ⟨rfl, m, rfl⟩
  generalize hy : w1.drewN m = Y
  have BY : Hid (Below w1.heap.size w1 Y) := hide (by rw [← hy]; exact below_drewN (Below.refl _ _) _)
  have B0Y := hide (B1.out.trans (BY.out.mono B1.out.size))
  clear HN hy
  by_cases hhi : f < u
  · have e1 : Sto.flu s u = (2, s) := by rw [HF0.out, if_pos (.inr hhi)]
    have E1 := hide e1
    clear e1
    go_wp2
    go_ret
    rw [E1.out]
    exact ⟨rfl, StS.same HSW.out B0Y.out⟩
  by_cases heq : u = z
  · have e1 : Sto.flu s u = (0, s) := by rw [HF0.out, if_neg (by omega), if_pos heq]
    have E1 := hide e1
    clear e1
    go_wp2
    go_ret
    rw [E1.out]
    exact ⟨rfl, StS.same HSW.out B0Y.out⟩
  obtain ⟨k, hk⟩ : ∃ k : Nat, (u - z).toNat = k := ⟨_, rfl⟩
  have hfz := HFZ.out
  have hk1 : 0 < k := by omega
  have hk2 : k ≤ s.l.length := by omega
  have huz : u = z + k := by omega
  have hwk : IntKind.i64.wrap (u - z) = (k : Int) := by rw [wrap_i64_small _ (by omega) (by omega)]; omega
  have hsY := HH.out.2.1.below BY.out
  have hrl := hsY.rest.len
  obtain ⟨vs, hvs, rowk⟩ := hsY.rest.row.row.slice_h Tryz.elemC Tryz.sizeC k (by omega)
  have y1 := (BY.out.cell (p := ⟨ps, 1, none⟩) (blk_lt HH.out.2.1.blk)).trans x1
  have hik : IsC Y vs (rs.take k) := ⟨rowk, fun c hc => hsY.rest.isc.2 c (List.mem_of_mem_take hc)⟩
  have HT := hide (tableof_any vs (rs.take k) Y hik (fun c hc => hsY.rest.get c (List.mem_of_mem_take hc)) (by rw [List.length_take]; omega))
  have ecv : cvs (rs.take k) = s.l.take k := by rw [cvs_take, hsY.rest.is]
  rw [ecv] at HT
  obtain ⟨t, ht⟩ : ∃ t, Rl.tab (s.l.take k) = t := ⟨_, rfl⟩
  rw [ht] at HT
  have hrn : Sto.rnn s u = ⟨z + 1, u, t⟩ := by unfold Sto.rnn; rw [HZ.out, hk, ht]
  have hgt := Cm.good_take HOK.out.rest k
  have htf : FitO t := by rw [← ht]; exact fit_c (Sto.tab_c hgt)
  have htl : t.length ≤ 800000 := by
    have := Sto.tab_len hgt
    rw [ht, List.length_take] at this
    omega
  obtain ⟨va, vn, vc, hvsh⟩ : ∃ a n c, vs = .slice a n c := by
    obtain ⟨a, c, h, _⟩ := rowk.shape
    exact ⟨a, _, c, h⟩
  subst hvsh
  rw [HF0.out, if_neg (by omega), if_neg heq, hrn] at HFO
  have HF1 : Hid (Sto.flu s u = if 1024 < t.length then (3, s) else if (Rl.flu s.r ⟨z + 1, u, t⟩).1 ≠ 0 then ((Rl.flu s.r ⟨z + 1, u, t⟩).1, ⟨(Rl.flu s.r ⟨z + 1, u, t⟩).2, s.l⟩) else (0, ⟨(Rl.flu s.r ⟨z + 1, u, t⟩).2, s.l.drop k⟩)) := hide (by rw [HF0.out, if_neg (by omega), if_neg heq, hrn, hk])
  rw [hk] at HFO
  have HHY := hide (And.intro (HH.out.1.below BY.out) (And.intro hsY HH.out.2.2))
  have HTF := hide (And.intro htf htl)
  have HTT := hide ht
  have HKK := hide (And.intro hk1 (And.intro hk2 huz))
  clear HF0 hrn hgt ht ecv hik rowk hsY hrl hk HW1 HH x0 x1 htf hfz huz hk1 hk2
  go_wp2_with fail
  refine HT.out.mono ?_
  rintro E w3 ⟨pt, rfl, bt, T3, p3, b3', bel3⟩
  have HL := hide (tlen_any pt bt w3 t T3)
  have T3 := hide T3
  have B3 := hide bel3
  have P3 := hide (And.intro p3 b3')
  clear HT p3 b3' bel3 hvs y1 hwk
  go_wp2_with fail
  refine HL.out.mono ?_
  rintro E w4 ⟨rfl, rfl⟩
  clear HL
  by_cases hbig : (1024 : Int) < t.length
  · have e1 : Sto.flu s u = (3, s) := by rw [HF1.out, if_pos (by omega)]
    have E1 := hide e1
    clear e1
    go_wp2
    go_ret
    rw [E1.out]
    exact ⟨rfl, StS.same HSW.out (B0Y.out.trans (B3.out.mono B0Y.out.size))⟩
  rw [if_neg (by omega)] at HFO HF1
  have HAL := hide (tall_of (.pointer (some ⟨pt, 0, none⟩)) w3 t (tops_any pt bt w3 t T3.out HTF.out.1 (by have := HTF.out.2; omega)))
  have hw1 : IntKind.i64.wrap (z + 1) = z + 1 := wrap_i64_small _ (by omega) (by omega)
  go_wp2_with fail
  refine HAL.out.mono ?_
  rintro E w4 ⟨B, rfl, sq, bel4⟩
  have HCO := hide (collect_any B _ w4 t sq (by have := HTF.out.2; omega))
  have B4 := hide (B3.out.trans (bel4.mono B3.out.size))
  clear HAL sq bel4
  go_wp2_with fail
  refine HCO.out.mono ?_
  rintro E w5 ⟨vt, rfl, own5, bel5⟩
  obtain ⟨oa, ok, hvo, _, _⟩ := own5.is.shape
  have htl2 := HTF.out.2
  obtain ⟨tn, htn⟩ : ∃ n, t.length = n := ⟨_, rfl⟩
  rw [htn] at hvo
  obtain ⟨w6, hw6, hw62, sz6, bel6, bX, e0, e1, e2⟩ := new_step w5 93 (.int .i64 0) (.int .i64 0) (.slice none 0 0) (.int .i64 (z + 1)) (.int .i64 u) vt
  have b56 := bel5.trans (bel6.mono bel5.size)
  have B6 := hide (B4.out.trans (b56.mono B4.out.size))
  obtain ⟨h1, hs, hd⟩ := HHY.out
  have h16 := h1.below B6.out
  have hs6 := hs.below B6.out
  have own6 := own5.below bel6
  have x6 := blk_cell hs6.blk 0 rfl
  simp only [List.getElem_toArray, List.getElem_cons_zero] at x6
  have h64 : In64 (z + 1) := ⟨by omega, by omega⟩
  have hl40 : t.length * 40 ≤ 140737488351232 := by omega
  have HFL := hide (hflush_any p q F1 w6.drew s.r ⟨z + 1, u, vt, t⟩ (h16.below ((Below.refl _ _).drew)) HBIG.out (own6.is.drewN 1) HTF.out.1 ⟨h64, HU.out⟩ hl40 (fun _ b hb hf => by
    have h2 := (OwnO.block own5 b hb).1
    have h3 := h1.lt b hf
    have h4 := B4.out.size
    omega))
  unfold cmv at HFL
  simp only at HFL
  rw [show (⟨z + 1, u, vt, t⟩ : Cw).c = ⟨z + 1, u, t⟩ from rfl] at HFL
  rw [hvo] at hw6 hw62 e2 HFL
  have HX := hide (And.intro h16 (And.intro hs6 hd))
  have hpx := blk_lt hs6.blk
  have hpnF : ¬ F1 ps := hd ps (.inl rfl)
  have hwnF : ¬ F1 w5.heap.size := fun hf => by
    have h3 := h1.lt _ hf
    have h4 := B4.out.size
    have h5 := bel5.size
    omega
  have hwx := blk_lt bX
  subst hvo
  obtain ⟨fe, hfe⟩ : ∃ x, (Rl.flu s.r ⟨z + 1, u, t⟩).1 = x := ⟨_, rfl⟩
  obtain ⟨r', hr'⟩ : ∃ x, (Rl.flu s.r ⟨z + 1, u, t⟩).2 = x := ⟨_, rfl⟩
  have HLL : Hid (fe = 0 → Cm.lastN 0 r'.l = u) := hide fun e => by
    have := Sto.rflu_l (s := s.r) (c := ⟨z + 1, u, t⟩) (hfe.trans e)
    rw [← hr', this]
    exact Rl.last_snoc _ _ _
  rw [hfe, hr'] at HFL HFO HF1
  clear h64 hl40 HCO own5 own6 bel5 bel6 b56 h1 hs hd h16 hs6 HHY B4 T3 htn hfe hr' bX htl2 htl
  go_wp2_with fail
  go_region_held3 (fun w' => w'.cell? ⟨ps, 0, none⟩ = some (.pointer (some ⟨p, 0, none⟩)) ∧ w'.cell? ⟨w5.heap.size, 0, none⟩ = some (.int .i64 (z + 1)) ∧ w'.cell? ⟨w5.heap.size, 1, none⟩ = some (.int .i64 u) ∧ w'.cell? ⟨w5.heap.size, 2, none⟩ = some (.slice oa tn ok)) (first | exact ⟨x6, e0, e1, e2⟩ | exact ⟨x7, g0, g1, g2⟩ | go_keep)
    (first
    | (go_at_call 54; refine HFL.out.mono ?_; rintro E w7 ⟨rfl, RS⟩; obtain ⟨F2, k1, k2', k3'⟩ := RS; have k2 : Out F1 w6 w7 := ((Out.refl _ w6).drew 1).trans k2' fun g hg => .inl hg; have k3 : ∀ g, F2 g → F1 g ∨ w6.heap.size ≤ g := k3'; have x7 := (cell_of_blk' (k2.block ps hpx hpnF) 0).trans x6; have g0 := (cell_of_blk' (k2.block w5.heap.size hwx hwnF) 0).trans e0; have g1 := (cell_of_blk' (k2.block w5.heap.size hwx hwnF) 1).trans e1; have g2 := (cell_of_blk' (k2.block w5.heap.size hwx hwnF) 2).trans e2; have RR := hide (And.intro k1 (And.intro k2 k3)); clear k1 k2 k3 k2' k3'))
  have hB06 := hide (B0Y.out.trans (B6.out.mono B0Y.out.size))
  by_cases hfe : fe = 0
  · have e5 : Sto.flu s u = (0, ⟨r', s.l.drop k⟩) := by rw [HF1.out, if_neg (by simpa using hfe)]
    have E5 := hide e5
    rw [if_neg (by simpa using hfe)] at HFO
    obtain ⟨k1, k2, k3⟩ := RR.out
    obtain ⟨h16, hs6, hd⟩ := HX.out
    have hs7 := hs6.out k2 hd
    have hd7 : ∀ g, SB ps pm bm v rs g → ¬ F2 g := fun g hg hf => by
      rcases k3 g hf with e | e
      · exact hd g hg e
      · have := hs6.lt g hg
        omega
    obtain ⟨q1, q2, q3⟩ := HKK.out
    have hlast := HLL.out hfe
    have HC := hide (catch2_any ps p q pm bm F2 w7 r' s.l v rs k k1 hs7 hd7 q2 q1 (fun c hc => by have := HOK.out.front k c hc; rw [HZ.out] at this; rw [hlast]; omega) (fun c hc => by have := HOK.out.back k q2 c hc; rw [HZ.out] at this; rw [hlast]; omega) HFO.out.1 hn)
    have T7 : Hid (Out (fun g => F1 g ∨ SB ps pm bm v rs g) w w7 ∧ ∀ g, (F2 g ∨ SB ps pm bm v rs g) → (F1 g ∨ SB ps pm bm v rs g) ∨ w.heap.size ≤ g) := hide (by
      have hz6 := hB06.out.size
      refine ⟨(Out.of_below (F := fun g => F1 g ∨ SB ps pm bm v rs g) hB06.out).trans k2 fun g hg => .inl (.inl hg), ?_⟩
      rintro g (e | e)
      · rcases k3 g e with e | e
        · exact .inl (.inl e)
        · exact .inr (by omega)
      · exact .inl (.inr e))
    subst hfe
    clear k1 k2 k3 h16 hs6 hd hs7 hd7 q1 q2 q3 hlast e5 HFL RR
    go_wp2_with fail
    refine HC.out.mono ?_
    rintro E w8 ⟨⟨uu, rfl⟩, SS⟩
    have FIN := hide (StS.trans T7.out.1 T7.out.2 SS)
    clear SS HC
    go_wp2
    go_ret
    rw [E5.out]
    exact ⟨rfl, FIN.out⟩
  · have e5 : Sto.flu s u = (fe, ⟨r', s.l⟩) := by rw [HF1.out, if_pos (by simpa using hfe)]
    have E5 := hide e5
    rw [if_pos (by simpa using hfe)] at HFO
    have hne : (fe != 0) = true := by simp [hfe]
    have FIN : Hid (StS ps p q (fun g => F1 g ∨ SB ps pm bm v rs g) w w7 ⟨r', s.l⟩) := hide (by
      obtain ⟨k1, k2, k3⟩ := RR.out
      obtain ⟨h16, hs6, hd⟩ := HX.out
      have hs7 := hs6.out k2 hd
      have hz6 := hB06.out.size
      refine ⟨_, ⟨F2, _, k1, ⟨pm, bm, v, rs, hs7, rfl⟩, fun g hg hf => ?_, HFO.out.1, rfl⟩, (Out.of_below (F := fun g => F1 g ∨ SB ps pm bm v rs g) hB06.out).trans k2 fun g hg => .inl (.inl hg), ?_⟩
      · rcases k3 g hf with e | e
        · exact hd g hg e
        · have := hs6.lt g hg
          omega
      · rintro g (e | e)
        · rcases k3 g e with e | e
          · exact .inl (.inl e)
          · exact .inr (by omega)
        · exact .inl (.inr e))
    clear e5 HFL RR
    go_wp2
    go_ret
    rw [E5.out]
    exact ⟨rfl, FIN.out⟩

end Go.Proofs.YthmecljkackmbaaGreat
