/- Texts of one layer, one behind the other. -/
import Derived.Test.YtajlhdmnincehaaGreatDoorH3
import Derived.Test.YtajlhdmnincehaaGreatDoorH1
/- slices.Clone of a list of ops. -/
namespace Go.Proofs.YtajlhdmnincehaaGreatDoor
open Go.RowKit
set_option linter.unusedVariables false

set_option maxHeartbeats 400000 in
theorem cloneO_any (vl : Value) (l : List Bm.Ov) (w : World) (h : IsO w vl l) (hl : l.length * 40 ≤ 140737488351232) :
    Calls Tryz.prog 149 #[vl] w fun e w' => ∃ v, e = .returned v ∧ OwnO 88 w.heap.size w' v l ∧ Below w.heap.size w w' := by
  have q : ∀ (w : World) (a : Option Addr) (n c n' c' : Nat), (binOp .eql 22 (.slice a n c) (.slice none n' c')).run Tryz.prog w = .ok (.bool a.isNone) w := fun w a n c n' c' => Lib.run_eql_slice_nil w _ _ a n c n' c' Tryz.underlying22
  by_cases hn : vl = .slice none 0 0
  · subst hn
    have : l = [] := by
      rcases h with ⟨_, h⟩ | ⟨ad, cap, h, _⟩
      · exact h
      · simp at h
    subst this
    clear h hl
    go_enter Tryz.func149, Tryz.ntmps149
    go_wp2
    go_ret
    exact ⟨_, rfl, OwnO.nil _ _ _, Below.refl _ _⟩
  · obtain ⟨ad, cap, rfl⟩ : ∃ ad cap, vl = .slice (some ad) l.length cap := by
      rcases h with ⟨h, _⟩ | ⟨ad, cap, h, _⟩
      · exact absurd h hn
      · exact ⟨ad, cap, h⟩
    clear hn
    obtain ⟨w1, hw1, sz1, bel1, own1⟩ := ops_step 88 w #[] 0 [] rfl rfl (by simp [maxLen])
    have h1 := h.below bel1
    go_enter Tryz.func149, Tryz.ntmps149
    go_wp2_with (at_builtin; refine wpList_append_ops rfl (.tmp 5) (.tmp 6) 22 rfl 88 w.heap.size Tryz.underlying22 Tryz.info88 _ [] rfl own1 _ l rfl h1 (by simp; omega) (by omega) ?_)
    intro v2 w2 own2 bel2 _
    go_wp2
    go_ret
    exact ⟨_, rfl, by simpa using own2, bel1.trans bel2⟩

end Go.Proofs.YtajlhdmnincehaaGreatDoor

/- 'append' of ops and of rows of runs or commits, as one step. No program. -/
namespace Go.Proofs.YtajlhdmnincehaaGreatDoor
open Go.RowKit
set_option linter.unusedVariables false

section
variable {P : Program} {w : World}


theorem run_append_coms_at (t ty e : TypeId) (base : Nat) (ht : P.underlying t = some (.slice e)) (hinfo : (P.info? e).map (fun i => (i.zero, i.size, i.bytes)) = some (some (.agg #[.int .i64 0, .int .i64 0, .slice none 0 0]), 3, 40))
    (v : Value) (l : List Cw) (hown : OwnR e base w v l) (vx : Value) (m : List Cw) (his : RowC w vx m) (hone : ∀ c ∈ m, c.v.oneCell' = true) (hlen : (l.length + m.length) * 40 ≤ 140737488355328) (hbase : base ≤ w.heap.size) :
    ∃ v' w', (Builtin.append_ #[t, t] ty #[v, vx]).run P w = .ok v' w' ∧ OwnR e base w' v' (l ++ m) ∧ w.grownBy w' v.ownBlock ∧ (v'.ownBlock = v.ownBlock ∨ v'.ownBlock = some w.heap.size) := by
  obtain ⟨i, hi, hz, hsize, hb⟩ := info_parts hinfo
  rcases his with ⟨hv, hy⟩ | ⟨ad, cap, hv, h1, h2, hc⟩
  · subst hy hv
    have hrun := run_append_owned_none (P := P) (w := w) base t ty e i 3 ht hi v l.length _ hown
    exact ⟨v, w, hrun, by simpa using hown, World.grownBy.refl _ _, .inl rfl⟩
  · subst hv
    obtain ⟨v', w', hr, h3, h4, _, h5⟩ := run_append_own_at (P := P) w base t ty e i _ 3 40 ht hi hz hsize hb rfl (by decide) v l.length _ hown ad m.length cap (ccells m) (ccells_len m) hc (ccells_cell m hone) (by unfold maxLen; omega) hlen hbase
    exact ⟨v', w', hr, by unfold OwnR; rw [ccells_app, List.length_append]; exact h3, h4, h5⟩

end

end Go.Proofs.YtajlhdmnincehaaGreatDoor

/- The contract of Copy (commits). -/
namespace Go.Proofs.YtajlhdmnincehaaGreatDoor
open Go.RowKit
set_option linter.unusedVariables false

theorem put_one {V : World} {R : Nat} {t : TypeId} {x y z : Value} (hR : V.heap[R]? = some (.cells #[x, y, z] t (0, 0))) (c : Value) :
    ∃ V', V.setCell ⟨R, 2, none⟩ c = V' ∧ V'.heap[R]? = some (.cells #[x, y, c] t (0, 0)) ∧ V.grownBy V' (some R) ∧ V.cell? ⟨R, 2, none⟩ = some z ∧ V.frozen? ⟨R, 2, none⟩ = false :=
  ⟨_, rfl, set_cells hR 2 c, grown_setCell V ⟨R, 2, none⟩ c, blk_cell hR 2 rfl, blk_froz hR 2⟩

set_option maxHeartbeats 400000 in
theorem ccopy_any (e n : Int) (v : Value) (l : List Bm.Ov) (w : World) (h : IsO w v l) (hl : l.length * 40 ≤ 140737488351232) :
    Calls Tryz.prog 83 #[cmv e n v] w fun E w' => ∃ v', E = .returned (cmv e n v') ∧ OwnO 88 w.heap.size w' v' l ∧ Below w.heap.size w w' := by
  unfold cmv
  obtain ⟨w1, hw1, sz1, bel1, hB⟩ := blk_step w #[.int .i64 e, .int .i64 n, v] 93
  obtain ⟨w2, hw2, sz2, bel2, hR⟩ := blk_step w1 #[.int .i64 0, .int .i64 0, .slice none 0 0] 93
  rw [sz1] at hR
  have hB2 := (bel2.block w.heap.size (by omega)).trans hB
  have bel02 : Below w.heap.size w w2 := bel1.trans (bel2.mono (by omega))
  have h2 := h.below bel02
  obtain ⟨ao, cap, rfl, _, _⟩ := h.shape
  have c2 := blk_cell hB2 2 rfl
  have HB := hide hB2
  have HR := hide hR
  clear hB hB2 hR bel1 bel2
  go_enter Tryz.func83, Tryz.ntmps83
  go_wp2_with fail
  refine (cloneO_any _ l _ h2 hl).mono ?_
  rintro E w3 ⟨v3, rfl, own3, bel3⟩
  have sz3 := bel3.size
  have hB3 := (bel3.block w.heap.size (by omega)).trans HB.out
  have hR3 := (bel3.block (w.heap.size + 1) (by omega)).trans HR.out
  have bel03 := bel02.trans (bel3.mono (by omega))
  obtain ⟨ah, ch, hvl, _, _⟩ := own3.is.shape
  subst hvl
  obtain ⟨X, hX, cX, gX, q2, q3⟩ := put_one hB3 (.slice ah l.length ch)
  have szX := gX.size
  have hRX := (gX.block (w.heap.size + 1) (by omega) (by simp)).trans hR3
  have ownX := own3.keptg gX (by omega)
  have bel0X := below_put bel03 gX (Nat.le_refl _) (by omega)
  have d0 := blk_cell cX 0 rfl
  have d1 := blk_cell cX 1 rfl
  have d2 := blk_cell cX 2 rfl
  obtain ⟨V', hV', bV', gV', ⟨a0, a1, a2⟩, ⟨f0, f1, f2⟩, ⟨z0, z1, z2⟩⟩ := res_step hRX (.int .i64 e) (.int .i64 n) (.slice ah l.length ch)
  have belV' := below_put bel0X gV' (by omega) (by omega)
  have ownV' := (ownX.keptg gV' (by omega)).rebase (base' := w.heap.size) (by omega)
  clear HB HR hB3 hR3 cX gX hRX bV' gV' own3 ownX bel03 bel0X bel3 c2
  go_wp2
  refine bodyPost_ret (v := .agg #[.int .i64 e, .int .i64 n, .slice ah l.length ch]) (by simp [results, Tryz.results83, go_sem, z0, z1, z2]) rfl ?_
  exact ⟨_, rfl, ownV', belV'⟩

end Go.Proofs.YtajlhdmnincehaaGreatDoor

/- One commit as a row. -/
namespace Go.Proofs.YtajlhdmnincehaaGreatDoor
open Go.RowKit
set_option linter.unusedVariables false

theorem FitC.one {e n : Int} {v : Value} {o : List Bm.Ov} (hf : FitO o) (hl : o.length * 40 ≤ 140737488351232) : FitC [⟨e, n, v, o⟩] := fun c hc => by rw [List.mem_singleton.1 hc]; exact ⟨hf, hl⟩

theorem one_row {w : World} {a : Nat} {e n : Int} {v : Value} {o : List Bm.Ov} {t : TypeId} (h : w.heap[a]? = some (.cells #[.int .i64 e, .int .i64 n, v] t (0, 0))) : RowC w (.slice (some ⟨a, 0, none⟩) 1 1) [⟨e, n, v, o⟩] := by
  refine .inr ⟨⟨a, 0, none⟩, 1, rfl, by simp, by simp [maxLen], fun j u hj => ?_⟩
  rw [add_at]
  simp only [ccells, ccell, List.append_nil] at hj
  match j, hj with
  | 0, hj => simp at hj; subst hj; exact blk_cell h 0 rfl
  | 1, hj => simp at hj; subst hj; exact blk_cell h 1 rfl
  | 2, hj => simp at hj; subst hj; exact blk_cell h 2 rfl
  | k + 3, hj => simp at hj

end Go.Proofs.YtajlhdmnincehaaGreatDoor
