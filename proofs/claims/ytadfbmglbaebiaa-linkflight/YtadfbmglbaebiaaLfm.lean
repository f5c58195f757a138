/- LinkFlight: a letter dropped, the list without it. -/
import Derived.Test.YtadfbmglbaebiaaLfl
namespace Go.Proofs.Ytadfbmglbaebiaa
open Go.RowKit Go.Shelf
set_option linter.unusedVariables false

/-- 'v[:i]' and 'v[i+1:]' of an own row of letters. -/
theorem own_two {w : World} {base g n cap i : Nat} {fs : List Lw} (h : OwnG letc 3 31 base w (.slice (some ⟨g, 0, none⟩) n cap) fs) (hn : n = fs.length) (hi : i < fs.length) :
    ∃ v1 v2, (∀ wx, (Instr.slice 45 (.slice (some ⟨g, 0, none⟩) n cap) none (some (.int .i64 i)) none).run Try.prog wx = .ok v1 wx) ∧ (∀ wx, (Instr.slice 45 (.slice (some ⟨g, 0, none⟩) n cap) (some (.int .i64 ((i : Int) + 1))) none none).run Try.prog wx = .ok v2 wx) ∧ RowG letc w v1 (fs.take i) ∧ RowG letc w v2 (fs.drop (i + 1)) := by
  subst hn
  obtain ⟨v2, s2, r2⟩ := h.row.slice_l letc_len Try.elemL Try.sizeL (i + 1) (by omega)
  have hc : fs.length ≤ cap ∧ cap ≤ maxLen := by
    rcases h.2 with ⟨h', _⟩ | ⟨g', cap', cur, h', _, _, h2, h3, _⟩
    · simp at h'
    · simp only [Value.slice.injEq, Option.some.injEq, Addr.mk.injEq, and_true, true_and] at h'
      obtain ⟨rfl, rfl⟩ := h'
      exact ⟨h2, h3⟩
  have hl : (fs.take i).length = i := by rw [List.length_take]; omega
  have ho : OwnG letc 3 31 base w (.slice (some ⟨g, 0, none⟩) i cap) (fs.take i) := by
    unfold OwnG
    rw [hl, gcells_take letc_len]
    exact own_cut h i (by omega)
  refine ⟨_, v2, fun wx => ?_, fun wx => by simpa using s2 wx, ho.row, r2⟩
  rw [run_slice_h wx 45 (some ⟨g, 0, none⟩) fs.length cap Try.elemL .i64 _ (by omega) (by omega), Try.sizeL]
  simp [Result.andThen, sliced, Addr.add]

theorem FM.len {base p B D : Nat} {w0 w : World} {st : Lm.Ls} {vf : Value} {fs : List Lw} (h : FM base p B D w0 w st vf fs) : boxLen B w = fs.length := by
  obtain ⟨F, h⟩ := h
  obtain ⟨a, c, hv, _⟩ := h.row.row.shape
  have := h.box
  rw [hv] at this
  exact boxLen_eq this

section
variable {base p B D : Nat} {w0 w w4 : World} {st : Lm.Ls} {fs : List Lw} {F F' : Nat → Prop} {g cap i : Nat} {x : Lm.Lt}

theorem fl_step (h : FF base p B D w0 w st (.slice (some ⟨g, 0, none⟩) fs.length cap) fs F) (hx : st.fl[i]? = some x) (k1 : Lk false p F' w4 ⟨st.last, st.fl.eraseIdx i⟩) (k2 : ∀ g, F' g → base ≤ g) (k3 : ¬ F' B) (k4 : ¬ F' D) (k6 : w4.heap[B]? = w.heap[B]?) (k7 : w4.heap[D]? = w.heap[D]?) (k8 : OwnG letc 3 31 base w4 (.slice (some ⟨g, 0, none⟩) fs.length cap) fs) (k9 : Below base w w4) (hl : fs.length ≤ 512) :
    ∃ v1 v2 w5, (∀ wx, (Instr.slice 45 (.slice (some ⟨g, 0, none⟩) fs.length cap) none (some (.int .i64 i)) none).run Try.prog wx = .ok v1 wx) ∧ (∀ wx, (Instr.slice 45 (.slice (some ⟨g, 0, none⟩) fs.length cap) (some (.int .i64 ((i : Int) + 1))) none none).run Try.prog wx = .ok v2 wx) ∧ w4.alloc (.cells #[] 31) = w5 ∧ w4.cell? ⟨B, 0, none⟩ = some (.slice (some ⟨g, 0, none⟩) fs.length cap) ∧ w5.cell? ⟨B, 0, none⟩ = some (.slice (some ⟨g, 0, none⟩) fs.length cap) ∧
      Hid (∀ ty, ∃ v' w', (Builtin.append_ #[45, 45] ty #[.slice (some ⟨w4.heap.size, 0, none⟩) 0 0, v1]).run Try.prog w5.drew = .ok v' w' ∧ (OwnG letc 3 31 w4.heap.size w' v' (fs.take i) ∧ Below w4.heap.size w4 w' ∧ w'.cell? ⟨B, 0, none⟩ = some (.slice (some ⟨g, 0, none⟩) fs.length cap) ∧ ∃ a n c, v' = .slice a n c)) ∧
      Hid (∀ v6 w6, OwnG letc 3 31 w4.heap.size w6 v6 (fs.take i) → Below w4.heap.size w4 w6 → ∀ ty, ∃ v' w', (Builtin.append_ #[45, 45] ty #[v6, v2]).run Try.prog w6 = .ok v' w' ∧ (FM base p B D w0 (w'.setCell ⟨B, 0, none⟩ v') ⟨st.last, st.fl.eraseIdx i⟩ v' (fs.eraseIdx i) ∧ w'.cell? ⟨B, 0, none⟩ = some (.slice (some ⟨g, 0, none⟩) fs.length cap) ∧ w'.frozen? ⟨B, 0, none⟩ = false ∧ ∃ a n c, v' = .slice a n c)) := by
  have hfl : fs.length = st.fl.length := by rw [← h.same, List.length_map]
  have hi : i < fs.length := by rw [hfl]; exact (List.getElem?_eq_some_iff.1 hx).1
  obtain ⟨v1, v2, s1, s2, r1, r2⟩ := own_two k8 rfl hi
  obtain ⟨w5, hw5, sz5, b5, own5⟩ := rows_step letc 3 letc_len 31 w4 #[] 0 [] rfl rfl (by simp)
  have hB4 := k6.trans h.box
  have lB := blk_lt hB4
  have hD4 := k7.trans h.dfr
  have lD := blk_lt hD4
  have hB5 := (b5.block B lB).trans hB4
  have bd : Below w4.heap.size w4 w5.drew := b5.trans ((below_drewN (Below.refl w5.heap.size w5) 1).mono (by omega))
  have hsz : base ≤ w4.heap.size := Nat.le_trans h.size k9.size
  refine ⟨v1, v2, w5, s1, s2, hw5, blk_cell hB4 0 rfl, blk_cell hB5 0 rfl, hide fun ty => ?_, hide fun v6 w6 own6 b6 ty => ?_⟩
  · have hlt : (fs.take i).length ≤ 512 := by rw [List.length_take]; omega
    obtain ⟨v', w', hr, ho, hg, _⟩ := run_append_rows_at (P := Try.prog) (w := w5.drew) 45 ty letc 3 40 letc_len (by decide) (by decide) (.agg #[.int .i64 0, .int .i64 0, .slice none 0 0]) rfl 31 w4.heap.size Try.underlying45 Try.info31 _ [] (own5.agree fun b hb => rfl) v1 (fs.take i) (r1.below bd) (letc_one _ fun r hr => h.form r (List.mem_of_mem_take hr)) (by simp; omega) bd.size
    have b' : Below w4.heap.size w4 w' := bd.grown hg bd.size fun k hk => by simp [Value.ownBlock] at hk; omega
    obtain ⟨a, c, hv, _⟩ := ho.row.shape
    exact ⟨v', w', hr, by simpa using ho, b', blk_cell ((b'.block B lB).trans hB4) 0 rfl, a, _, c, hv⟩
  · have hlt : (fs.take i).length + (fs.drop (i + 1)).length ≤ 1024 := by rw [List.length_take, List.length_drop]; omega
    obtain ⟨v', w', hr, ho, hg, _⟩ := run_append_rows_at (P := Try.prog) (w := w6) 45 ty letc 3 40 letc_len (by decide) (by decide) (.agg #[.int .i64 0, .int .i64 0, .slice none 0 0]) rfl 31 w4.heap.size Try.underlying45 Try.info31 v6 (fs.take i) own6 v2 (fs.drop (i + 1)) (r2.below b6) (letc_one _ fun r hr => h.form r (List.mem_of_mem_drop hr)) (by omega) b6.size
    have b' : Below w4.heap.size w4 w' := b6.grown hg b6.size fun k hk => (own6.lt k hk).1
    have hB' := (b'.block B lB).trans hB4
    have hD' := (b'.block D lD).trans hD4
    obtain ⟨a, c, hv, _⟩ := ho.row.shape
    rw [← List.eraseIdx_eq_take_drop_succ] at ho
    have k2' : ∀ b, b ≠ B → (w'.setCell ⟨B, 0, none⟩ v').heap[b]? = w'.heap[b]? := fun b hb => Below.heap_setCell _ _ _ _ hb
    have hBD : D ≠ B := by
      intro e
      rw [e, hB4] at hD4
      cases hD4
    have hok := Lm.ok_del h.ok x.n
    rw [del_rise h.ok hx] at hok
    have b0 : Below base w0 w' := (h.bel.trans k9).trans (b'.mono hsz)
    refine ⟨v', w', hr, ⟨F', (k1.below b').agree (fun b hb => k2' b fun e => k3 (e ▸ hb)) (by simp [World.setCell]), k2, ?_, k3, (ho.agree fun b hb => k2' b ?_).rebase hsz, fun b hb hF => ?_, k4, (k2' D hBD).trans hD', b0.grown (grown_setCell w' ⟨B, 0, none⟩ v') (Nat.le_trans hsz b'.size) fun k hk => ?_, h.hb, h.bge, fun r hr => h.form r (List.mem_of_mem_eraseIdx hr), ?_, hok⟩, blk_cell hB' 0 rfl, blk_froz hB' 0, a, _, c, hv⟩
    · rw [set_cells hB']
      simp
    · have := (ho.lt b hb).1
      omega
    · have h1 := (ho.lt b hb).1
      have h2 := k1.lt b hF
      omega
    · simp at hk
      have := h.bge
      have := h.hb
      omega
    · rw [erase_map, h.same]
end

end Go.Proofs.Ytadfbmglbaebiaa
