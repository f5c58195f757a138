/- The statement's own: what a table goes over, as a list (all). -/
import Derived.Test.YtlfhpbiapnjghaaTe
namespace Go.Proofs.Ytlfhpbiapnjghaa
open Go.RowKit Go.Maps Go.Shelf
open Bm (Ov)
set_option linter.unusedVariables false
attribute [local go_sem] Oper.semAt_some

/-- 'append(out, o)' of ops inside a round: out nil or the call's own. -/
theorem wpListIn_append_ops {F : Fence} {nf : Nat} {P : Program} {w : World} {ops : Array Oper} {rest : List Oper} {o : Oper} {a : Act} {Q : Exit → Act → World → Prop} (hgd : o.guard = none) (s x : Operand) (t : TypeId)
    (ho : o.op = .call { callee := .builtin .append, args := #[s, x], argTypes := #[t, t] })
    (e : TypeId) (base : Nat) (ht : P.underlying t = some (.slice e)) (hinfo : (P.info? e).map (fun i => (i.zero, i.size, i.bytes)) = some (some (.agg #[.bool false, .string ⟨#[]⟩, .string ⟨#[]⟩]), 3, 40))
    (v : Value) (l : List Ov) (hs : a.eval s = v) (hown : OwnO e base w v l) (ad : Addr) (m : List Ov) (c : Nat) (hx : a.eval x = .slice (some ad) m.length c) (hc : ∀ j u, (ocells m)[j]? = some u → w.cell? (ad.add j) = some u)
    (hlen : (l.length + m.length) * 40 ≤ 140737488355328) (hbase : base ≤ w.heap.size)
    (h : ∀ v' w', OwnO e base w' v' (l ++ m) → Below base w w' → w.grownBy w' v.ownBlock → wpListIn F nf P ops Q rest (a.put o.dst v') w') : wpListIn F nf P ops Q (o :: rest) a w := by
  obtain ⟨i, hi, hz, hsize, hb⟩ := info_parts hinfo
  have hn : l.length + m.length ≤ 140737488355328 := by omega
  refine wpListIn_append_own w hgd s x t ho base e i _ 3 40 ht hi hz hsize hb rfl (by decide) v l.length _ hs hown ad m.length c (ocells m) hx (ocells_len m) hc (ocells_cell m) (by unfold maxLen; omega) hlen hbase ?_
  intro v' w' ho' hg _
  refine h v' w' (by unfold OwnO; rw [ocells_app, List.length_append]; exact ho') ((Below.refl _ _).grown hg hbase fun k' hk => ?_) hg
  exact (World.ownsRow.lt hown k' hk).1

theorem OwnO.cel {e base : Nat} {w : World} {v : Value} {l : List Ov} (h : OwnO e base w v l) {g : Nat} (hg : v.ownBlock = some g) : ∃ cs fr, w.heap[g]? = some (.cells cs e fr) := by
  rcases h.2 with ⟨hv, _⟩ | ⟨g', cap, cur, hv, h1, hh, _⟩
  · rw [hv] at hg; cases hg
  · rw [hv] at hg
    cases hg
    exact ⟨_, _, hh⟩

/-- Between two rounds: the list's variable, its list, what else stays. -/
def RI (ob : Nat) (W3 : World) (l : List Ov) (W : World) : Prop := ∃ v, W.heap[ob]? = some (.cells #[v] 33 (0, 0)) ∧ OwnO 28 W3.heap.size W v l ∧ Out (fun g => g = ob) W3 W

theorem RI.grown {ob : Nat} {W3 W W' : World} {l : List Ov} {row : Option Nat} (hob : ob < W3.heap.size) (h : RI ob W3 l W) (hg : W.grownBy W' row) (hr : ∀ r, row = some r → W3.heap.size ≤ r ∧ ∃ o : Obj, W.heap[r]? = some o ∧ o.isCells = false) : RI ob W3 l W' := by
  obtain ⟨v, h1, h2, h3⟩ := h
  refine ⟨v, (hg.block ob (blk_lt h1) fun e => by have := (hr _ e.symm).1; omega).trans h1, h2.kept hg ?_, h3.trans (Out.of_grown (F := fun g => row = some g) hg fun g h => h) fun g h => .inr (hr g h).1⟩
  cases hv : v.ownBlock with
  | none => exact .inl rfl
  | some g =>
    refine .inr fun e => ?_
    obtain ⟨cs, fr, h4⟩ := h2.cel hv
    obtain ⟨_, o, h5, h6⟩ := hr g e.symm
    rw [h4] at h5
    cases h5
    simp [Obj.isCells] at h6

/-- A round that gathers one. -/
theorem RI.app {ob : Nat} {W3 W W1 W2 : World} {l' : List Ov} {v v' : Value} (hob : ob < W3.heap.size) (hW3 : W3.heap.size ≤ W.heap.size) (h1 : W.heap[ob]? = some (.cells #[v] 33 (0, 0))) (h3 : Out (fun g => g = ob) W3 W) (b1 : Below W.heap.size W W1) (ho : OwnO 28 W3.heap.size W2 v' l') (b2 : Below W3.heap.size W1 W2) :
    RI ob W3 l' (W2.setCell ⟨ob, 0, none⟩ v') ∧ W2.heap[ob]? = some (.cells #[v] 33 (0, 0)) := by
  have h4 := (b2.block ob hob).trans ((b1.block ob (by omega)).trans h1)
  refine ⟨⟨v', by rw [set_cells h4]; simp, ?_, ?_⟩, h4⟩
  · refine ho.kept (grown_setCell W2 ⟨ob, 0, none⟩ v') ?_
    cases hv : v'.ownBlock with
    | none => exact .inl rfl
    | some g =>
      refine .inr fun e => ?_
      have := (ho.block g hv).1
      simp at e
      omega
  · have q1 : Out (fun g => g = ob) W3 W1 := h3.trans (Out.of_below (F := fun g => g = ob) b1) fun g hg => .inl hg
    have q2 : Out (fun g => g = ob) W3 W2 := ⟨b2.os.trans q1.os, b2.tape.trans q1.tape, b2.output.trans q1.output, Nat.le_trans q1.size b2.size, fun g hg hn => (b2.block g hg).trans (q1.block g hg hn)⟩
    exact q2.trans (Out.of_grown (F := fun g => g = ob) (grown_setCell W2 ⟨ob, 0, none⟩ v') fun g hg => by simpa using hg.symm) fun g hg => .inl hg

theorem below_ko {base : Nat} {W W' : World} (h : Below base W W') (hs : ∀ g, base ≤ g → g < W.heap.size → ∃ cs t fr, W.heap[g]? = some (.cells cs t fr)) : KeepsOthers W W' := ⟨h.size, fun k o hk ho => by
  by_cases hb : k < base
  · exact (h.block k hb).trans hk
  · obtain ⟨cs, t, fr, h1⟩ := hs k (by omega) (blk_lt hk)
    rw [hk] at h1
    cases h1
    simp [Obj.isCells] at ho⟩

theorem grown_ko {W W' : World} {row : Option Nat} (h : W.grownBy W' row) (hr : ∀ g, row = some g → ∃ cs t fr, W.heap[g]? = some (.cells cs t fr)) : KeepsOthers W W' := ⟨h.size, fun k o hk ho => (h.block k (blk_lt hk) fun e => by
  obtain ⟨cs, t, fr, h1⟩ := hr k e.symm
  rw [hk] at h1
  cases h1
  simp [Obj.isCells] at ho).trans hk⟩

/-- The rounds' deferred calls are taken. -/
theorem fin_put {w W : World} {D : Nat} {v : Value} {l : List Ov} (h : OwnO 28 w.heap.size W v l ∧ Below w.heap.size w W) (hD : w.heap.size ≤ D) (hK : W.heap[D]? = some (.deferred (some []))) : OwnO 28 w.heap.size (W.putObj D (.deferred none)) v l ∧ Below w.heap.size w (W.putObj D (.deferred none)) := by
  refine ⟨h.1.kept (grownBy_putObj' W D (.deferred none)) ?_, h.2.grown (grownBy_putObj' W D (.deferred none)) h.2.size fun k hk => by cases hk; exact hD⟩
  cases hv : v.ownBlock with
  | none => exact .inl rfl
  | some g =>
    refine .inr fun e => ?_
    cases e
    obtain ⟨cs, fr, h4⟩ := h.1.cel hv
    rw [hK] at h4
    cases h4

set_option maxRecDepth 100000 in
set_option maxHeartbeats 8000000 in
theorem lall_any (tv : Value) (w : World) (t : List Ov) (n : Nat) (hL : t.length ≤ 1000000) (hm : ∀ w1, Below w.heap.size w w1 → Calls Try.prog 37 #[tv] w1 fun E w' => ∃ v, E = .returned v ∧ OwnO 28 w1.heap.size w' v t ∧ Below w1.heap.size w1 w') :
    Calls Try.prog 24 #[tv, .int .i64 n] w fun E w' => ∃ v, E = .returned v ∧ OwnO 28 w.heap.size w' v (t.take n) ∧ Below w.heap.size w w' := by
  obtain ⟨W1, hW1, sz1, b1, B1⟩ := blk_step w #[.int .i64 n] 3
  obtain ⟨W2, hW2, sz2, b2, B2⟩ := blk_step W1 #[.slice none 0 0] 33
  rw [sz1] at B2 b2
  replace sz2 : W2.heap.size = w.heap.size + 2 := by omega
  have b02 : Below w.heap.size w W2 := b1.trans (b2.mono (by omega))
  have HALL := hide (tall_of tv W2 t (hm W2 b02))
  have HB1 := hide ((b2.block w.heap.size (by omega)).trans B1)
  have HB2 := hide B2
  have Hb02 := hide b02
  clear hm B1 B2 b1 b2 b02
  refine (callsIn_wide (n := 6)).1 ?_
  refine callsIn_of_wp_marks Try.func24 rfl trivial ?_ rfl
  simp only [Try.ntmps24, List.size_toArray, List.length_cons, List.length_nil, Nat.reduceAdd, Nat.reduceSub, Array.replicate_succ, Array.replicate_zero, List.push_toArray, List.append_toArray, List.nil_append, List.cons_append]
  gi_wp2_with fail
  refine ⟨trivial, (callsIn_wide.2 HALL.out).mono ?_⟩
  rintro E W3 ⟨B, rfl, sq, b3⟩
  have sz3 : w.heap.size + 2 ≤ W3.heap.size := by have := b3.size; omega
  have HSEQ := hide (vals_seq 5 (by omega) B W2.heap.size t W3 sq hL)
  have SQL := hide sq.lt
  have HN3 := hide ((b3.block w.heap.size (by omega)).trans HB1.out)
  have HO3 := hide ((b3.block (w.heap.size + 1) (by omega)).trans HB2.out)
  have Hb3 := hide (Hb02.out.trans (b3.mono (by omega)))
  clear sq b3 hW1 hW2
  have hob : w.heap.size + 1 < W3.heap.size := by omega
  have HKN : Hid (∀ W W', Out (fun g => g = w.heap.size + 1) W3 W → Out (fun g => g = w.heap.size + 1) W3 W' → Kn (SeqTB B W3) W W') := hide fun W W' h1 h2 g hg => by
    obtain ⟨q1, q2⟩ := SQL.out g hg
    have hne : ¬ g = w.heap.size + 1 := by omega
    rw [h1.block g q2 hne, h2.block g q2 hne]
  gi_wp2_with fail
  apply wpIn_rangeFunc_ownH rfl (by omega) (gf := 42) (lb := #[.pointer (some ⟨B, 0, none⟩)]) rfl trivial (enters_of Try.func42 (by kernel_rfl) rfl) (encs := fun x : Nx t.length => #[ovv (pt t x)]) (Kp := Kn (SeqTB B W3)) (S := fun xs => xs = upn t.length t.length) (Sp := fun pre => ∃ k, k ≤ t.length ∧ pre = upn t.length k) (N := t.length) (w0 := W3) HSEQ.out Kn.trans (kn_b (fun g hg => (SQL.out g hg).2)) (Below.refl _ _) (fun _ => rfl)
    (fun pre W => pre.length ≤ n ∧ RI (w.heap.size + 1) W3 (pts t pre) W)
    (fun c pre W => c = .exit 0 ∧ pre.length = n + 1 ∧ RI (w.heap.size + 1) W3 ((pts t pre).take n) W)
    (fun s X Y row hs hg hr => ⟨hs.1, hs.2.grown hob hg hr⟩)
    (fun c s X Y row hs hg hr => ⟨hs.1, hs.2.1, hs.2.2.grown hob hg hr⟩)
    ⟨by simp, .slice none 0 0, HO3.out, OwnO.nil _ _ _, Out.refl _ _⟩
    (fun x a' W => ∃ q, a' = { tmps := #[tv, .int .i64 n, undef, .pointer (some ⟨w.heap.size, 0, none⟩), .slice none 0 0, .pointer (some ⟨w.heap.size + 1, 0, none⟩), .pointer (some ⟨q, 0, none⟩), tv, .func (.func 42) #[] #[.pointer (some ⟨B, 0, none⟩)], ovv (pt t x), undef, undef, undef, undef, undef, undef, undef, undef, undef], defers := [] } ∧ W.heap[q]? = some (.cells #[.bool (pt t x).p, .string (pt t x).k, .string (pt t x).v] 28 (0, 0)))
    (fun x a' s X Y row hs hg hr => by
      obtain ⟨q, h1, h2⟩ := hs
      refine ⟨q, h1, (hg.block q (blk_lt h2) fun e => ?_).trans h2⟩
      obtain ⟨_, o, h3, h4⟩ := hr q e.symm
      rw [h2] at h3
      cases h3
      simp [Obj.isCells] at h4)
  case hassign =>
    rintro l0 pre x W K ⟨hpl, hI⟩ hK
    obtain ⟨o, ho⟩ : ∃ o, pt t x = o := ⟨_, rfl⟩
    rw [ho] at hK ⊢
    unfold ovv at hK ⊢
    obtain ⟨V, hV, szV, bV, BV⟩ := blk_step W #[.bool o.p, .string o.k, .string o.v] 28
    have hI2 : RI (w.heap.size + 1) W3 (pts t pre) V := by rw [← hV]; exact hI.grown hob (World.grownBy_alloc _ _ none) (fun r e => by cases e)
    have hO1 : Out (fun g => g = w.heap.size + 1) W3 W := by obtain ⟨_, _, _, h⟩ := hI; exact h
    have hO2 : Out (fun g => g = w.heap.size + 1) W3 V := by obtain ⟨_, _, _, h⟩ := hI2; exact h
    have HKK := hide (hK _ V ((KeepsOthers.from ⟨bV.size, fun k o hk _ => (bV.block k (blk_lt hk)).trans hk⟩ _)) (HKN.out _ _ hO1 hO2) ⟨hpl, hI2⟩ ⟨W.heap.size, rfl, BV⟩)
    clear hK hI hI2 hO1 hO2 bV BV
    gi_wp2
    exact HKK.out
  case hbody =>
    rintro l0 pre x a' W _ _ ⟨hpl, v, h1, h2, h3⟩ ⟨q, rfl, hq⟩ hlt0
    have hlen : (pts t pre).length = pre.length := pts_len t pre
    obtain ⟨ao, cap, hv, _, _⟩ := h2.is.shape
    rw [hlen] at hv
    have hW3 := h3.size
    have c1 := blk_cell h1 0 rfl
    have cn : W.cell? ⟨w.heap.size, 0, none⟩ = some (.int .i64 n) := blk_cell ((h3.block w.heap.size (by omega) (by omega)).trans HN3.out) 0 rfl
    have q0 := blk_cell hq 0 rfl
    have q1 := blk_cell hq 1 rfl
    have q2 := blk_cell hq 2 rfl
    have hsn := pts_snoc t pre x
    obtain ⟨o, ho⟩ : ∃ o, pt t x = o := ⟨_, rfl⟩
    rw [ho] at q0 q1 q2 hsn ⊢
    by_cases hend : pre.length = n
    · have hE : ((pre.length : Int) == (n : Int)) = true := by simp [hend]
      have HX : Hid (RI (w.heap.size + 1) W3 ((pts t (pre ++ [x])).take n) W) := hide ⟨v, h1, by rw [hsn, List.take_append_of_le_length (by omega), List.take_of_length_le (by omega)]; exact h2, h3⟩
      have HPL : Hid ((pre ++ [x]).length = n + 1) := hide (by simp [hend])
      subst hv
      clear h2 h3 h1 hq hsn hlen hpl ho
      gi_wp2
      exact ⟨KeepsFrom.refl _ _, rfl, HPL.out, HX.out⟩
    · have hE : ((pre.length : Int) == (n : Int)) = false := by simp; omega
      have hE2 : ¬ (pre.length : Int) = (n : Int) := by omega
      obtain ⟨V, hV, szV, bV, ownV⟩ := ops_step 28 W #[.bool o.p, .string o.k, .string o.v] 1 [o] rfl rfl (by simp [maxLen])
      have own2 := h2.below bV
      have cV := (ownV.is)
      have hcells : ∀ j u, (ocells [o])[j]? = some u → V.cell? ((⟨W.heap.size, 0, none⟩ : Addr).add j) = some u := by
        rcases cV with ⟨h, _⟩ | ⟨ad, cp, h, _, _, hc⟩
        · cases h
        · cases h
          exact hc
      have hb40 : ((pts t pre).length + [o].length) * 40 ≤ 140737488355328 := by rw [hlen]; simp; omega
      have hzV : W3.heap.size ≤ V.heap.size := by omega
      have HFIN : Hid (∀ v' w', OwnO 28 W3.heap.size w' v' (pts t pre ++ [o]) → Below W3.heap.size V w' → V.grownBy w' v.ownBlock → (w'.cell? ⟨w.heap.size + 1, 0, none⟩ = some v ∧ w'.frozen? ⟨w.heap.size + 1, 0, none⟩ = false) ∧ KeepsFrom W3.heap.size W (w'.setCell ⟨w.heap.size + 1, 0, none⟩ v') ∧ Kn (SeqTB B W3) W (w'.setCell ⟨w.heap.size + 1, 0, none⟩ v') ∧ (pre ++ [x]).length ≤ n ∧ RI (w.heap.size + 1) W3 (pts t (pre ++ [x])) (w'.setCell ⟨w.heap.size + 1, 0, none⟩ v')) := hide fun v' w' ho' hb' hg' => by
        obtain ⟨r1, r2⟩ := RI.app hob hW3 h1 h3 bV ho' hb'
        have hO2 : Out (fun g => g = w.heap.size + 1) W3 (w'.setCell ⟨w.heap.size + 1, 0, none⟩ v') := by obtain ⟨_, _, _, h⟩ := r1; exact h
        refine ⟨⟨blk_cell r2 0 rfl, blk_froz r2 0⟩, ?_, HKN.out _ _ h3 hO2, by simp; omega, by rw [hsn]; exact r1⟩
        have k1 : KeepsOthers W V := ⟨bV.size, fun k o hk _ => (bV.block k (blk_lt hk)).trans hk⟩
        have k2 : KeepsOthers V w' := grown_ko hg' fun g hg => by obtain ⟨cs, fr, h⟩ := own2.cel hg; exact ⟨cs, _, fr, h⟩
        exact ((k1.trans k2).trans (KeepsOthers.setCell _ _ _)).from _
      have hinf := Try.info28
      have HV := hide hv
      rw [hv] at c1 own2
      clear h2 h3 h1 hq hsn hlen hpl bV ownV cV hv
      gi_wp2_with (gi_at_builtin; refine wpListIn_append_ops rfl (.tmp 14) (.tmp 16) 33 rfl 28 W3.heap.size Try.underlying33 hinf _ (pts t pre) rfl own2 ⟨W.heap.size, 0, none⟩ [o] 1 rfl hcells hb40 hzV ?_)
      intro v' w' ho' hb' hg'
      obtain ⟨ao2, cap2, hsh2, _, _⟩ := ho'.is.shape
      obtain ⟨L2, hL2⟩ : ∃ L2, (pts t pre ++ [o]).length = L2 := ⟨_, rfl⟩
      rw [hL2] at hsh2
      clear hL2
      subst hsh2
      have HH := hide (HFIN.out _ w' ho' hb' (by rw [HV.out]; exact hg'))
      have cz := HH.out.1.1
      have fz := HH.out.1.2
      rw [HV.out] at cz
      clear ho' hb' hg' c1 cn q0 q1 q2 own2 hcells
      gi_wp2
      exact HH.out.2
  case hdone =>
    rintro D xs W hD rfl ⟨hpl, v, h1, h2, h3⟩ hK
    rw [pts_all] at h2
    rw [upn_len _ _ (Nat.le_refl _)] at hpl
    have c1 := blk_cell h1 0 rfl
    have hE : Hid (OwnO 28 w.heap.size W v (t.take n) ∧ Below w.heap.size w W) := hide ⟨by rw [List.take_of_length_le hpl]; exact h2.rebase (by omega), Hb3.out.trans (h3.below (fun g hg => by omega) (by omega))⟩
    have HKD := hide hK
    have hD' : w.heap.size ≤ D := by omega
    clear h1 h2 h3 hK
    gi_wp2
    refine ⟨by simp, .inl ⟨_, _, rfl, run_takeDeferred HKD.out, ?_⟩⟩
    obtain ⟨f1, f2⟩ := fin_put hE.out hD' HKD.out
    refine ⟨v, ?_, v, rfl, f1, f2⟩
    simp [results, Try.results24, go_sem]
  case hstop =>
    rintro D c pre W hD ⟨k0, hk1, hk2⟩ ⟨rfl, hpl, v, h1, h2, h3⟩ hK
    rw [hk2, upn_len _ _ hk1] at hpl
    rw [hk2, pts_up t k0 hk1, List.take_take, Nat.min_eq_left (by omega)] at h2
    have c1 := blk_cell h1 0 rfl
    have hE : Hid (OwnO 28 w.heap.size W v (t.take n) ∧ Below w.heap.size w W) := hide ⟨h2.rebase (by omega), Hb3.out.trans (h3.below (fun g hg => by omega) (by omega))⟩
    have HKD := hide hK
    have hD' : w.heap.size ≤ D := by omega
    clear h1 h2 h3 hK
    gi_wp2
    refine ⟨by simp, .inl ⟨_, _, rfl, run_takeDeferred HKD.out, ?_⟩⟩
    obtain ⟨f1, f2⟩ := fin_put hE.out hD' HKD.out
    refine ⟨v, ?_, v, rfl, f1, f2⟩
    simp [results, Try.results24, go_sem]

end Go.Proofs.Ytlfhpbiapnjghaa
