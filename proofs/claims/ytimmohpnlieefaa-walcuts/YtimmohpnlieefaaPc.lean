/- The program's disk: slices.Delete of raw steps; what a disk holds behind a change of a file, of its row. -/
import Derived.Test.YtimmohpnlieefaaPb
import Derived.Test.YtimmohpnlieefaaGs
namespace Go.Proofs.Ytimmohpnlieefaa
open Go.RowKit
set_option linter.unusedVariables false

theorem stepc_one (rs : List Rv) (h : ∀ r ∈ rs, ∃ a n c, r.v = .slice a n c) : ∀ u ∈ gcells stepc rs, u.oneCell' = true := by
  induction rs with
  | nil => simp [gcells]
  | cons r l ih =>
    intro u hu
    rw [gcells, List.mem_append] at hu
    rcases hu with hu | hu
    · obtain ⟨a, n, c, hv⟩ := h r (by simp)
      simp only [stepc, List.mem_cons, List.not_mem_nil, or_false] at hu
      rcases hu with rfl | rfl | rfl | rfl
      · rfl
      · rfl
      · rw [hv]; rfl
      · rfl
    · exact ih (fun r hr => h r (by simp [hr])) u hu

theorem Try.info111 : (Try.prog.info? 111).map (fun i => (i.zero, i.size, i.bytes)) = some (some (.agg #[.int .i64 0, .int .i64 0, .slice none 0 0, .int .i64 0]), 4, 48) := by kernel_rfl

theorem Try.elemD : Try.prog.underlying 57 = some (.slice (Try.prog.elem 57)) := by kernel_rfl

theorem Try.sizeD (wx : World) : (sizeOf (Try.prog.elem 57)).run Try.prog wx = .ok 4 wx := by kernel_rfl

theorem Try.zeroS (wx : World) : (zeroValue 111).run Try.prog wx = .ok (.agg #[.int .i64 0, .int .i64 0, .slice none 0 0, .int .i64 0]) wx := by kernel_rfl

set_option maxHeartbeats 4000000 in
theorem del_any (w : World) (wv : Value) (rs : List Rv) (n : Nat) (hrow : OwnG stepc 4 111 0 w wv rs) (hsl : ∀ r ∈ rs, ∃ a n c, r.v = .slice a n c) (hn : n ≤ rs.length) (hlen : rs.length ≤ 1000000) :
    Calls Try.prog 92 #[wv, .int .i64 0, .int .i64 n] w fun E w' => ∃ v', E = .returned v' ∧ OwnG stepc 4 111 0 w' v' (rs.drop n) ∧ Out (fun g => wv.ownBlock = some g) w w' ∧ v'.ownBlock = wv.ownBlock := by
  by_cases h0 : n = 0
  · subst h0
    obtain ⟨ao, cap, hv, hcap, hcm⟩ := hrow.row.shape
    subst hv
    have R := hide (show OwnG stepc 4 111 0 w (.slice ao rs.length cap) (rs.drop 0) from hrow)
    clear hrow hsl
    go_enter Try.func92, Try.ntmps92
    go_wp2
    all_goals (go_ret; exact ⟨_, rfl, R.out, Out.refl _ _, rfl⟩)
  · obtain ⟨L, hL⟩ : ∃ L, L = rs.length := ⟨_, rfl⟩
    obtain ⟨m, hm⟩ : ∃ m, L = n + m := ⟨L - n, by omega⟩
    obtain ⟨g, cap, hv, hcap, hcm, hcell, hfroz⟩ : ∃ g cap, wv = .slice (some ⟨g, 0, none⟩) L cap ∧ L ≤ cap ∧ cap ≤ maxLen ∧ (∀ j, j < cap * 4 → (w.cell? ⟨g, j, none⟩).isSome = true) ∧ ∀ j, w.frozen? ⟨g, j, none⟩ = false := by
      rcases hrow.2 with ⟨_, h⟩ | ⟨g, cap, cur, hv, _, hg, hc, hm', hs, _⟩
      · omega
      · refine ⟨g, cap, by rw [hL]; exact hv, by rw [hL]; exact hc, hm', fun j hj => ?_, fun j => blk_froz hg j⟩
        rw [blk_cell hg j (Array.getElem?_eq_getElem (by omega : j < cur.size))]
        rfl
    have hdl : (rs.drop n).length = m := by rw [List.length_drop]; omega
    obtain ⟨i, hi, hz, hsize, hby⟩ := info_parts Try.info111
    obtain ⟨vs, hs3, hrw⟩ := hrow.row.slice_l stepc_len Try.elemD Try.sizeD n (by omega)
    obtain ⟨avs, cvs, hvs, hcv, hcells⟩ : ∃ ad c, vs = .slice (some ad) m c ∧ m ≤ c ∧ ∀ j u, (gcells stepc (rs.drop n))[j]? = some u → w.cell? (ad.add j) = some u := by
      rcases hrw with ⟨h, h'⟩ | ⟨ad, c, h1, h2, _, h4⟩
      · exfalso
        have := hs3 w
        rw [hv, run_slice_l w 57 (some ⟨g, 0, none⟩) L cap Try.elemD .i64 _ (by omega) (by omega), Try.sizeD, h] at this
        simp [Result.andThen, sliced] at this
        split at this <;> simp at this
      · exact ⟨ad, c, by rw [h1, hdl], by omega, h4⟩
    have own0 : w.ownsRow 0 111 4 (.slice (some ⟨g, 0, none⟩) 0 cap) 0 [] := by
      have h1 : w.ownsRow 0 111 4 wv L (gcells stepc rs) := by rw [hL]; exact hrow
      rw [hv] at h1
      simpa using own_cut h1 0 (by omega)
    have hrun : ∃ w1, (∀ ty, (Builtin.append_ #[57, 57] ty #[.slice (some ⟨g, 0, none⟩) 0 cap, .slice (some avs) m cvs]).run Try.prog w.drew = .ok (.slice (some ⟨g, 0, none⟩) m cap) w1) ∧ w1.ownsRow 0 111 4 (.slice (some ⟨g, 0, none⟩) m cap) m (gcells stepc (rs.drop n)) ∧ w.drew.grownBy w1 (some g) := by
      have key := fun ty => run_append_fits (P := Try.prog) w.drew 0 57 ty 111 i 4 Try.underlying57 hi hsize g 0 cap [] own0 avs m cvs (gcells stepc (rs.drop n)) (by rw [gcells_len stepc_len, hdl]) hcells (stepc_one _ fun r hr => hsl r (List.mem_of_mem_drop hr)) (by omega)
      obtain ⟨w1, h1, h2, h3⟩ := key 0
      rw [Nat.zero_add] at h1 h2
      exact ⟨w1, fun ty => h1, h2, h3⟩
    obtain ⟨w1, hrun, own1, gr1⟩ := hrun
    obtain ⟨cur1, hg1, hs1⟩ : ∃ cur, w1.heap[g]? = some (.cells cur 111 (0, 0)) ∧ cur.size = cap * 4 := by
      rcases own1.2 with ⟨h, _⟩ | ⟨g', cap', cur, h, _, hg, _, _, hs, _⟩
      · simp at h
      · simp only [Value.slice.injEq, Option.some.injEq, Addr.mk.injEq, and_true, true_and] at h
        obtain ⟨rfl, rfl⟩ := h
        exact ⟨cur, hg, hs⟩
    have hzl : (Builtin.zeroCells (Value.agg #[.int .i64 0, .int .i64 0, .slice none 0 0, .int .i64 0]).cells n).toList.length = n * 4 := by rw [zeroCells_len]; rfl
    obtain ⟨w2, hw2⟩ : ∃ w2, w2 = w1.setCells g (m * 4) (Builtin.zeroCells (Value.agg #[.int .i64 0, .int .i64 0, .slice none 0 0, .int .i64 0]).cells n).toList := ⟨_, rfl⟩
    have hcl : ∀ ty, (Builtin.clear_ #[57] ty #[.slice (some ⟨g, m * 4, none⟩) n (cap - m)]).run Try.prog w1 = .ok (.tuple #[]) w2 := fun ty => by
      rw [hw2]
      exact run_clear_rows w1 _ _ ty _ Try.underlying57 Try.zeroS (zeroCells_one n (by decide)) g (m * 4) (cap - m) (by omega) (fun j hj => by rw [hzl] at hj; rw [blk_cell hg1 _ (Array.getElem?_eq_getElem (by omega : m * 4 + j < cur1.size))]; rfl) (fun j _ => blk_froz hg1 _)
    have R : Hid (OwnG stepc 4 111 0 w2 (.slice (some ⟨g, 0, none⟩) m cap) (rs.drop n)) := hide (by
      unfold OwnG
      rw [hdl, hw2]
      exact own_setCells own1 _ (Nat.le_refl _) _)
    have O : Hid (Out (fun b => (Value.slice (some ⟨g, 0, none⟩) L cap).ownBlock = some b) w w2) := hide (by
      rw [hw2]
      exact Out.of_grown (grown_trans (grown_trans (grown_drewN w 1 _) gr1) (setCells_grown g _ (m * 4) w1)) fun b hb => hb)
    obtain ⟨x1, hsA⟩ : ∃ x, ∀ wx, (Instr.slice 57 wv (some (.int .i64 0)) (some (.int .i64 n)) (some (.int .i64 L))).run Try.prog wx = .ok x wx := by
      refine ⟨sliced (some ⟨g, 0, none⟩) 0 n L 4, fun wx => ?_⟩
      rw [hv, run_slice_lhm wx 57 (some ⟨g, 0, none⟩) L cap Try.elemD .i64 .i64 .i64 _ _ _ (by omega) (by omega) (by omega) (by omega), Try.sizeD]
      simp [Result.andThen]
    have hs2 : ∀ wx, (Instr.slice 57 wv none (some (.int .i64 0)) none).run Try.prog wx = .ok (.slice (some ⟨g, 0, none⟩) 0 cap) wx := fun wx => by
      rw [hv, run_slice_h wx 57 (some ⟨g, 0, none⟩) L cap Try.elemD .i64 _ (by omega) (by omega), Try.sizeD]
      simp [Result.andThen, sliced, Addr.add]
    have hlr : ∀ ty wx, (Builtin.len_ #[57] ty #[wv]).run Try.prog wx = .ok (.int .i64 L) wx := fun ty wx => by
      rw [hv]
      simp [Builtin.len_, run_underlying Try.underlying57, goInt]
    have hob : wv.ownBlock = some g := by rw [hv]; rfl
    rw [← hv] at O
    rw [hvs] at hs3
    have hmc : ¬ cap = m := by omega
    have hmL : (m : Int) ≤ L := by omega
    have hLc : (L : Int) ≤ cap := by omega
    have hLm : L - m = n := by omega
    rw [← hLm] at hcl
    have hne : ((0 : Int) == (n : Int)) = false := by simp; omega
    have HB := hide hob
    have HR := hide hrun
    clear hrun hw2 hzl hg1 hs1 own1 gr1 own0 hrw hcells hcell hfroz hrow hsl hi hz hsize hby hvs hdl hL hm hv hLm h0 hn hlen hcap hcm hob hcv
    go_enter Try.func92, Try.ntmps92
    go_wp2
    go_region_law (refine step_append_at rfl (.tmp 22) (.tmp 25) 57 rfl (.slice (some ⟨g, 0, none⟩) 0 cap) (.slice (some avs) m cvs) (by first | rfl | (simp [Act.eval]; done)) (by first | rfl | (simp [Act.eval]; done)) (R := fun v' w' => v' = .slice (some ⟨g, 0, none⟩) m cap ∧ w' = w1) (fun ty => ⟨_, _, HR.out ty, rfl, rfl⟩) ?_; rintro _ _ ⟨rfl, rfl⟩)
    all_goals (go_wp2; go_ret; exact ⟨_, rfl, R.out, O.out, HB.out.symm⟩)

section
variable {p : Nat} {F G : Nat → Prop} {w w' w1 w2 : World} {st st' : Dm.Ds} {sure sure' : Nat → List Int} {wait wait' : List Dm.Rw} {s s' : Nat → Value} {wv wv' : Value} {rs rs' : List Rv}

def sup (s : Nat → Value) (f : Nat) (v : Value) : Nat → Value := fun j => if j = f then v else s j

/-- One file's slice is another one now. -/
theorem Con.files (h : Con w sure wait s wv rs) {f : Nat} (hf : f < 4) {v : Value} {bs' : List Int} (hown : Own .u8 5 0 w' v bs') (ho : Out (fun g => (s f).ownBlock = some g) w w') (hat : ∀ b, v.ownBlock = some b → (s f).ownBlock = some b ∨ w.heap.size ≤ b) :
    Con w' (Dm.upd sure f bs') wait (sup s f v) wv rs := by
  have hlt : ∀ j, j < 4 → ∀ b, (s j).ownBlock = some b → b < w.heap.size := fun j hj b hb => ((h.file j hj).block b hb).2
  have hrl : ∀ r ∈ rs, ∀ b, r.v.ownBlock = some b → b < w.heap.size := fun r hr b hb => by
    obtain ⟨_, cs, fr, hc⟩ := (h.raw r hr).2 b hb
    exact blk_lt hc
  have nv : ∀ j, j < 4 → j ≠ f → ∀ b, v.ownBlock = some b → (s j).ownBlock ≠ some b := fun j hj hjf b hb e => by
    rcases hat b hb with h1 | h1
    · exact h.apart f j hf hj (Ne.symm hjf) b h1 e
    · have := hlt j hj b e; omega
  refine ⟨fun j hj => ?_, fun j k hj hk hjk b hb => ?_, ?_, fun r hr => ?_, fun r hr j hj b hb => ?_, h.wait⟩
  · by_cases e : j = f
    · subst e; simp only [sup, Dm.upd, if_true]; exact hown
    · simp only [sup, Dm.upd, if_neg e]
      exact (h.file j hj).agree fun b hb => ho.block b (hlt j hj b hb) fun h1 => h.apart j f hj hf e b hb h1
  · unfold sup at hb ⊢
    by_cases e : j = f
    · rw [if_pos e] at hb
      rw [if_neg (fun h1 => hjk (e.trans h1.symm))]
      exact nv k hk (fun h1 => hjk (e.trans h1.symm)) b hb
    · rw [if_neg e] at hb
      by_cases e2 : k = f
      · rw [if_pos e2]
        exact fun h1 => nv j hj e b h1 hb
      · rw [if_neg e2]
        exact h.apart j k hj hk hjk b hb
  · refine h.row.agree fun b hb => ho.block b (h.row.lt b hb).2 fun h1 => ?_
    obtain ⟨cs, hc⟩ := h.row.type hb
    obtain ⟨cs', hc'⟩ := (h.file f hf).type h1
    rw [hc] at hc'
    simp at hc'
  · exact (h.raw r hr).agree fun b hb => ho.block b (hrl r hr b hb) fun h1 => h.rawa r hr f hf b hb h1
  · unfold sup
    by_cases e : j = f
    · rw [if_pos e]
      intro h1
      rcases hat b h1 with h2 | h2
      · exact h.rawa r hr f hf b hb h2
      · have := hrl r hr b hb; omega
    · rw [if_neg e]
      exact h.rawa r hr j hj b hb

theorem FB.files {f : Nat} (hf : f < 4) {v : Value} (hat : ∀ b, v.ownBlock = some b → (s f).ownBlock = some b ∨ w.heap.size ≤ b) : ∀ g, FB p (sup s f v) wv rs g → FB p s wv rs g ∨ w.heap.size ≤ g := by
  rintro g (h | ⟨j, hj, h⟩ | h | h)
  · exact .inl (.inl h)
  · unfold sup at h
    by_cases e : j = f
    · rw [if_pos e] at h
      rcases hat g h with h1 | h1
      · exact .inl (.inr (.inl ⟨f, hf, h1⟩))
      · exact .inr h1
    · rw [if_neg e] at h
      exact .inl (.inr (.inl ⟨j, hj, h⟩))
  · exact .inl (.inr (.inr (.inl h)))
  · exact .inl (.inr (.inr (.inr h)))

/-- The row of raw steps is another one now. -/
theorem Con.rows (h : Con w sure wait s wv rs) (hrow : OwnG stepc 4 111 0 w' wv' rs') (ho : Out (fun g => wv.ownBlock = some g) w w')
    (hraw : ∀ r ∈ rs', Byt (fun _ => True) w r.v r.bytes ∧ ∀ f, f < 4 → ∀ b, r.v.ownBlock = some b → (s f).ownBlock ≠ some b) (hw : rs'.map Rv.r = wait') : Con w' sure wait' s wv' rs' := by
  refine ⟨fun j hj => ?_, h.apart, hrow, fun r hr => ?_, fun r hr => (hraw r hr).2, hw⟩
  · refine (h.file j hj).agree fun b hb => ho.block b ((h.file j hj).block b hb).2 fun h1 => ?_
    obtain ⟨cs, hc⟩ := h.row.type h1
    obtain ⟨cs', hc'⟩ := (h.file j hj).type hb
    rw [hc] at hc'
    simp at hc'
  · refine (hraw r hr).1.agree fun b hb => ?_
    obtain ⟨_, cs, fr, hc⟩ := (hraw r hr).1.2 b hb
    refine ho.block b (blk_lt hc) fun h1 => ?_
    obtain ⟨cs', hc'⟩ := h.row.type h1
    rw [hc] at hc'
    simp at hc'

end

end Go.Proofs.Ytimmohpnlieefaa
