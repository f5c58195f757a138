/- slices.Delete of a row's end, and slices.Clone, of commits; the program's log is cut. -/
import Derived.Test.YtimmohpnlieefaaA5
import Derived.Test.YtimmohpnlieefaaGs
namespace Go.Proofs.Ytimmohpnlieefaa
open Go.RowKit
set_option linter.unusedVariables false

theorem Try.zeroC (wx : World) : (zeroValue 32).run Try.prog wx = .ok (.agg #[.int .i64 0, .int .i64 0, .slice none 0 0]) wx := by kernel_rfl

theorem Try.elemI : Try.prog.underlying 46 = some (.slice (Try.prog.elem 46)) := by kernel_rfl
theorem Try.sizeI (wx : World) : (sizeOf (Try.prog.elem 46)).run Try.prog wx = .ok 1 wx := by kernel_rfl

set_option maxRecDepth 20000 in
set_option maxHeartbeats 4000000 in
theorem delC_any (w : World) (base : Nat) (v : Value) (rs : List Cw) (k : Nat) (hrow : OwnR 32 base w v rs) (hk : k ≤ rs.length) (hlen : rs.length ≤ 1048576) :
    Calls Try.prog 82 #[v, .int .i64 k, .int .i64 rs.length] w fun E w' => ∃ v', E = .returned v' ∧ OwnR 32 base w' v' (rs.take k) ∧ Out (fun g => v.ownBlock = some g) w w' ∧ v'.ownBlock = v.ownBlock := by
  by_cases h0 : k = rs.length
  · obtain ⟨ao, cap, hv, hcap, hcm⟩ := hrow.row.shape
    have R := hide (show OwnR 32 base w v (rs.take k) by rw [h0, List.take_length]; exact hrow)
    subst hv
    rw [h0] at R ⊢
    clear hrow h0 hk
    go_enter Try.func82, Try.ntmps82
    go_wp2
    all_goals (go_ret; exact ⟨_, rfl, R.out, Out.refl _ _, rfl⟩)
  · obtain ⟨L, hL⟩ : ∃ L, L = rs.length := ⟨_, rfl⟩
    have hkL : k < L := by omega
    obtain ⟨g, cap, hv, hcap, hcm, hcell, hfroz⟩ : ∃ g cap, v = .slice (some ⟨g, 0, none⟩) L cap ∧ L ≤ cap ∧ cap ≤ maxLen ∧ (∀ j, j < cap * 3 → (w.cell? ⟨g, j, none⟩).isSome = true) ∧ ∀ j, w.frozen? ⟨g, j, none⟩ = false := by
      rcases hrow.2 with ⟨_, h⟩ | ⟨g, cap, cur, hv, _, hg, hc, hm', hs, _⟩
      · omega
      · refine ⟨g, cap, by rw [hL]; exact hv, by rw [hL]; exact hc, hm', fun j hj => ?_, fun j => blk_froz hg j⟩
        rw [blk_cell hg j (Array.getElem?_eq_getElem (by omega : j < cur.size))]
        rfl
    have hrow0 := hrow
    unfold OwnR at hrow0
    rw [hv, ← hL] at hrow0
    have own1 : w.ownsRow base 32 3 (.slice (some ⟨g, 0, none⟩) k cap) k (ccells (rs.take k)) := by
      rw [ccells_take]
      exact own_cut hrow0 k (by omega)
    obtain ⟨i, hi, hz, hsize, hby⟩ := info_parts Try.info32
    obtain ⟨ad, cx, hs3⟩ : ∃ ad c, ∀ wx, (Instr.slice 34 v (some (.int .i64 L)) none none).run Try.prog wx = .ok (.slice (some ad) 0 c) wx := by
      by_cases hc : cap = L
      · refine ⟨⟨g, 0, none⟩, 0, fun wx => ?_⟩
        rw [hv, run_slice_l wx 34 (some ⟨g, 0, none⟩) L cap Try.elemC .i64 _ (by omega) (by omega), Try.sizeC]
        simp [Result.andThen, sliced, hc]
      · refine ⟨⟨g, L * 3, none⟩, cap - L, fun wx => ?_⟩
        rw [hv, run_slice_l wx 34 (some ⟨g, 0, none⟩) L cap Try.elemC .i64 _ (by omega) (by omega), Try.sizeC]
        simp [Result.andThen, sliced, hc, add_at]
    have hrun : ∃ w1, (∀ ty, (Builtin.append_ #[34, 34] ty #[.slice (some ⟨g, 0, none⟩) k cap, .slice (some ad) 0 cx]).run Try.prog w.drew = .ok (.slice (some ⟨g, 0, none⟩) k cap) w1) ∧ w1.ownsRow base 32 3 (.slice (some ⟨g, 0, none⟩) k cap) k (ccells (rs.take k)) ∧ w.drew.grownBy w1 (some g) := by
      have key := fun ty => run_append_fits (P := Try.prog) w.drew base 34 ty 32 i 3 Try.underlying34 hi hsize g k cap (ccells (rs.take k)) own1 ad 0 cx [] (by simp) (by simp) (by simp) (by omega)
      obtain ⟨w1, h1, h2, h3⟩ := key 0
      exact ⟨w1, fun ty => h1, by simpa using h2, h3⟩
    obtain ⟨w1, hrun, own2, gr1⟩ := hrun
    obtain ⟨cur1, hg1, hs1⟩ : ∃ cur, w1.heap[g]? = some (.cells cur 32 (0, 0)) ∧ cur.size = cap * 3 := by
      rcases own2.2 with ⟨h, _⟩ | ⟨g', cap', cur, h, _, hg, _, _, hs, _⟩
      · simp at h
      · simp only [Value.slice.injEq, Option.some.injEq, Addr.mk.injEq, and_true, true_and] at h
        obtain ⟨rfl, rfl⟩ := h
        exact ⟨cur, hg, hs⟩
    obtain ⟨m, hm⟩ : ∃ m, m = L - k := ⟨_, rfl⟩
    have hzl : (Builtin.zeroCells (Value.agg #[.int .i64 0, .int .i64 0, .slice none 0 0]).cells m).toList.length = m * 3 := by rw [zeroCells_len]; rfl
    obtain ⟨w2, hw2⟩ : ∃ w2, w2 = w1.setCells g (k * 3) (Builtin.zeroCells (Value.agg #[.int .i64 0, .int .i64 0, .slice none 0 0]).cells m).toList := ⟨_, rfl⟩
    have hcl : ∀ ty, (Builtin.clear_ #[34] ty #[.slice (some ⟨g, k * 3, none⟩) m (cap - k)]).run Try.prog w1 = .ok (.tuple #[]) w2 := fun ty => by
      rw [hw2]
      exact run_clear_rows w1 _ _ ty _ Try.underlying34 Try.zeroC (zeroCells_one m (by decide)) g (k * 3) (cap - k) (by omega) (fun j hj => by rw [hzl] at hj; rw [blk_cell hg1 _ (Array.getElem?_eq_getElem (by omega : k * 3 + j < cur1.size))]; rfl) (fun j _ => blk_froz hg1 _)
    have htl : (rs.take k).length = k := by rw [List.length_take]; omega
    have R : Hid (OwnR 32 base w2 (.slice (some ⟨g, 0, none⟩) k cap) (rs.take k)) := hide (by
      unfold OwnR
      rw [htl, hw2]
      exact own_setCells own2 _ (Nat.le_refl _) _)
    have O : Hid (Out (fun b => (Value.slice (some ⟨g, 0, none⟩) L cap).ownBlock = some b) w w2) := hide (by
      rw [hw2]
      exact Out.of_grown (grown_trans (grown_trans (grown_drewN w 1 _) gr1) (setCells_grown g _ (k * 3) w1)) fun b hb => hb)
    obtain ⟨x1, hsA⟩ : ∃ x, ∀ wx, (Instr.slice 34 v (some (.int .i64 k)) (some (.int .i64 L)) (some (.int .i64 L))).run Try.prog wx = .ok x wx := by
      refine ⟨sliced (some ⟨g, 0, none⟩) k L L 3, fun wx => ?_⟩
      rw [hv, run_slice_lhm wx 34 (some ⟨g, 0, none⟩) L cap Try.elemC .i64 .i64 .i64 _ _ _ (by omega) (by omega) (by omega) (by omega), Try.sizeC]
      simp [Result.andThen]
    have hs2 : ∀ wx, (Instr.slice 34 v none (some (.int .i64 k)) none).run Try.prog wx = .ok (.slice (some ⟨g, 0, none⟩) k cap) wx := fun wx => by
      rw [hv, run_slice_h wx 34 (some ⟨g, 0, none⟩) L cap Try.elemC .i64 _ (by omega) (by omega), Try.sizeC]
      simp [Result.andThen, sliced, Addr.add]
    have hlr : ∀ ty wx, (Builtin.len_ #[34] ty #[v]).run Try.prog wx = .ok (.int .i64 L) wx := fun ty wx => by
      rw [hv]
      simp [Builtin.len_, run_underlying Try.underlying34, goInt]
    have hob : v.ownBlock = some g := by rw [hv]; rfl
    rw [← hv] at O
    rw [← hL]
    have hmc : ¬ cap = k := by omega
    have hmL : (k : Int) ≤ L := by omega
    have hLc : (L : Int) ≤ cap := by omega
    rw [hm] at hcl
    have hne : ((k : Int) == (L : Int)) = false := by simp; omega
    have HB := hide hob
    have HR := hide hrun
    clear hrun hw2 hzl hg1 hs1 own1 own2 gr1 hrow0 hcell hfroz hrow hi hz hsize hby hL hm hv h0 hk hlen hcap hcm hob htl hkL
    go_enter Try.func82, Try.ntmps82
    go_wp2
    go_region_law (refine step_append_at rfl (.tmp 22) (.tmp 25) 34 rfl (.slice (some ⟨g, 0, none⟩) k cap) (.slice (some ad) 0 cx) (by first | rfl | (simp [Act.eval]; done)) (by first | rfl | (simp [Act.eval]; done)) (R := fun v' w' => v' = .slice (some ⟨g, 0, none⟩) k cap ∧ w' = w1) (fun ty => ⟨_, _, HR.out ty, rfl, rfl⟩) ?_; rintro _ _ ⟨rfl, rfl⟩)
    all_goals (go_wp2; go_ret; exact ⟨_, rfl, R.out, O.out, HB.out.symm⟩)

theorem cloneC_any (vl : Value) (r : List Cw) (w : World) (h : RowC w vl r) (hone : ∀ c ∈ r, c.v.oneCell' = true) (hl : r.length ≤ 1048576) :
    Calls Try.prog 64 #[vl] w fun e w' => ∃ v, e = .returned v ∧ OwnR 32 w.heap.size w' v r ∧ Below w.heap.size w w' := by
  have q : ∀ (w : World) (a : Option Addr) (n c n' c' : Nat), (binOp .eql 34 (.slice a n c) (.slice none n' c')).run Try.prog w = .ok (.bool a.isNone) w := fun w a n c n' c' => Lib.run_eql_slice_nil w _ _ a n c n' c' Try.underlying34
  by_cases hn : vl = .slice none 0 0
  · subst hn
    have : r = [] := by
      rcases h with ⟨_, h⟩ | ⟨ad, cap, h, _⟩
      · exact h
      · simp at h
    subst this
    clear h hl
    go_enter Try.func64, Try.ntmps64
    go_wp2
    go_ret
    exact ⟨_, rfl, OwnR.nil _ _ _, Below.refl _ _⟩
  · obtain ⟨ad, cap, rfl⟩ : ∃ ad cap, vl = .slice (some ad) r.length cap := by
      rcases h with ⟨h, _⟩ | ⟨ad, cap, h, _⟩
      · exact absurd h hn
      · exact ⟨ad, cap, h⟩
    clear hn
    obtain ⟨w1, hw1, sz1, bel1, own1⟩ := coms_step 32 w #[] 0 [] rfl rfl (by simp [maxLen])
    have h1 := h.below bel1
    go_enter Try.func64, Try.ntmps64
    go_wp2_with (at_builtin; refine wpList_append_coms rfl (.tmp 5) (.tmp 6) 34 rfl 32 w.heap.size Try.underlying34 Try.info32 _ [] rfl own1 _ r rfl h1 hone (by simp; omega) (by omega) ?_)
    intro v2 w2 own2 bel2 _
    go_wp2
    go_ret
    exact ⟨_, rfl, by simpa using own2, bel1.trans bel2⟩

/-- The first commits are left. -/
theorem Lw.cut {base : Nat} {w : World} {l : List Cm.Cv} {vc ve : Value} {rs : List Cw} (h : Lw base w l vc ve rs) (k : Nat) (hk : k ≤ l.length) {b o : Nat} {t : TypeId} {cs : Array Value} (hB : w.heap[b]? = some (.cells cs t (0, 0))) (h1 : t ≠ 32) (h2 : t ≠ 3) (h3 : t ≠ 87)
    {w' : World} {v' : Value} (hr : OwnR 32 base w' v' (rs.take k)) (ho : Out (fun g => vc.ownBlock = some g) w w') (hb : v'.ownBlock = vc.ownBlock) :
    w'.heap[b]? = some (.cells cs t (0, 0)) ∧ ∃ vs, (∀ wx, (Instr.slice 46 ve none (some (.int .i64 k)) none).run Try.prog wx = .ok vs wx) ∧
      (∀ U, U.heap[b]? = some (.cells ((cs.setIfInBounds o v').setIfInBounds (o + 1) vs) t (0, 0)) → Out (fun g => g = b) w' U → Lw base U (l.take k) v' vs (rs.take k) ∧ (∀ g, LB v' vs (rs.take k) g → LB vc ve rs g) ∧ Out (fun g => g = b ∨ LB vc ve rs g) w U) := by
  have hne := h.r.ne hB h1 h2 h3
  have hB' : w'.heap[b]? = some (.cells cs t (0, 0)) := (ho.block b (blk_lt hB) fun e => hne (.inl e)).trans hB
  have en' : Own .i64 3 base w' ve (ends l) := h.r.en.agree fun g hg => ho.block g (h.r.en.block g hg).2 fun e => by
    obtain ⟨c1, e1⟩ := h.r.en.type hg
    obtain ⟨c2, e2⟩ := h.r.row.type e
    rw [e1] at e2
    simp only [Option.some.injEq, Obj.cells.injEq] at e2
    exact absurd e2.2.1 (by decide)
  obtain ⟨vs, hvs, own, hvb⟩ := en'.slice_h Try.elemI Try.sizeI k (by rw [ends_len]; exact hk)
  refine ⟨hB', vs, hvs, fun U hU oU => ⟨⟨⟨?_, ?_, ?_⟩, ?_, Cm.good_take h.good k⟩, ?_, ?_⟩⟩
  · refine row_agree hr fun g hg => oU.block g (World.ownsRow.lt hr g hg).2 fun e => hne (.inl ?_)
    rw [← e, ← hb]
    exact hg
  · intro c hc
    have hc' := h.r.cop c (List.mem_of_mem_take hc)
    have := ho.trans oU (G := fun g => g = b) (F := fun g => vc.ownBlock = some g)
    have s1 : OwnO 87 base w' c.v c.l := row_agree hc' fun g hg => ho.block g (OwnO.block hc' g hg).2 fun e => by
      obtain ⟨c1, e1⟩ := hc'.type hg
      obtain ⟨c2, e2⟩ := h.r.row.type e
      rw [e1] at e2
      simp only [Option.some.injEq, Obj.cells.injEq] at e2
      exact absurd e2.2.1 (by decide)
    exact row_agree s1 fun g hg => oU.block g (OwnO.block s1 g hg).2 fun e => hne (.inr (.inr ⟨c, List.mem_of_mem_take hc, e ▸ hg⟩))
  · rw [ends_take l k hk]
    exact own.agree fun g hg => oU.block g (own.block g hg).2 fun e => hne (.inr (.inl (by rw [← e]; exact hvb g hg)))
  · rw [cvs_take, h.is]
  · rintro g (e | e | ⟨c, hc, e⟩)
    · exact .inl (by rw [← hb]; exact e)
    · exact .inr (.inl (hvb g e))
    · exact .inr (.inr ⟨c, List.mem_of_mem_take hc, e⟩)
  · refine (ho.mono (G := fun g => g = b ∨ LB vc ve rs g) fun g hg => .inl (.inr (.inl hg))).trans oU fun g hg => .inl (.inl hg)

end Go.Proofs.Ytimmohpnlieefaa
