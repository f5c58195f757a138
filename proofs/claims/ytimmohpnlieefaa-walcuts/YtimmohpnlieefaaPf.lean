/- The program's disk: a raw step done ('do'). -/
import Derived.Test.YtimmohpnlieefaaPe
namespace Go.Proofs.Ytimmohpnlieefaa
open Go.RowKit Go.Shelf
set_option linter.unusedVariables false

theorem ok_push {st : Dm.Ds} {r : Dm.Rw} (h : Dm.Ok st) (hf : Dm.fits (Dm.dof st.sure st.wait) r) : Dm.Ok (Dm.push st r) := by
  unfold Dm.Ok Dm.push at *
  rw [Dm.valid_app]
  exact ⟨h, hf, trivial⟩

/-- A raw step becomes pending. -/
theorem push_tail {p : Nat} {W : World} {st : Dm.Ds} {s : Nat → Value} {wv : Value} {rs : List Rv} (h : PkV p W st s wv rs) (r : Rv) (hraw : Byt (fun _ => True) W r.v r.bytes) (hra : ∀ f, f < 4 → ∀ b, r.v.ownBlock = some b → (s f).ownBlock ≠ some b) (hfit : Dm.fits (Dm.dof st.sure st.wait) r.r) (hlen : rs.length ≤ 1000000) :
    ∃ V, W.drew.alloc (.cells #[.int .i64 (kof r), .int .i64 r.file, r.v, .int .i64 r.to] 111) = V ∧ V.cell? ⟨p, 7, none⟩ = some wv ∧ Hid (∀ ty, ∃ v' w', (Builtin.append_ #[57, 57] ty #[wv, .slice (some ⟨W.heap.size, 0, none⟩) 1 1]).run Try.prog V = .ok v' w' ∧
      ((∃ F', Pk p F' (w'.setCell ⟨p, 7, none⟩ v') (Dm.push st r.r) ∧ Out (FB p s wv rs) W (w'.setCell ⟨p, 7, none⟩ v') ∧ ∀ g, F' g → FB p s wv rs g ∨ W.heap.size ≤ g ∨ r.v.ownBlock = some g) ∧ w'.cell? ⟨p, 7, none⟩ = some wv ∧ w'.frozen? ⟨p, 7, none⟩ = false ∧ ∃ a n c, v' = .slice a n c)) := by
  obtain ⟨a0, n0, k0, hrv⟩ := hraw.1.form
  obtain ⟨V, hV, szV, belV, rowV⟩ := rows_step stepc 4 stepc_len 111 W.drew #[.int .i64 (kof r), .int .i64 r.file, r.v, .int .i64 r.to] 1 [r] rfl rfl (by decide)
  have belV' : Below W.heap.size W V := (below_drewN (Below.refl _ _) 1).trans belV
  have hV1 := h.below belV'
  refine ⟨V, hV, hV1.c7, hide fun ty => ?_⟩
  obtain ⟨v', w', hr, own', gr', at'⟩ := run_append_rows_at (P := Try.prog) 57 ty stepc 4 48 stepc_len (by decide) (by decide) (.agg #[.int .i64 0, .int .i64 0, .slice none 0 0, .int .i64 0]) rfl 111 0 Try.underlying57 Try.info111 wv rs hV1.con.row _ [r] rowV.row (stepc_one [r] fun q hq => by simp at hq; subst hq; exact hraw.1.form) (by simp; omega) (Nat.zero_le _)
  have out' : Out (fun g => wv.ownBlock = some g) V w' := Out.of_grown gr' fun g hg => hg
  have hC' : Con w' st.sure (st.wait ++ [r.r]) s v' (rs ++ [r]) := hV1.con.rows own' out' (fun q hq => by
    rcases List.mem_append.1 hq with hq | hq
    · exact ⟨hV1.con.raw q hq, hV1.con.rawa q hq⟩
    · simp at hq
      subst hq
      exact ⟨hraw.agree fun b hb => by obtain ⟨_, cs, fr, hc⟩ := hraw.2 b hb; exact belV'.block b (blk_lt hc), hra⟩) (by rw [List.map_append, h.con.wait]; rfl)
  have hp' : w'.heap[p]? = some (.cells (pcells s wv st.on (pfuse st) st.count) 59 (0, 0)) := (out'.block p (blk_lt hV1.blk) fun h1 => (hV1.con.ne hV1.blk (by decide) (by decide)).2.1 p h1 rfl).trans hV1.blk
  obtain ⟨R1, R2⟩ := PkV.put (st' := Dm.push st r.r) (s' := s) (wv' := v') (rs' := rs ++ [r]) hp' 7 v' rfl hC' (ok_push h.ok hfit)
  refine ⟨v', w', hr, ⟨_, ⟨s, v', rs ++ [r], R1, rfl⟩, ?_, ?_⟩, blk_cell hp' 7 rfl, blk_froz hp' 7, ?_⟩
  · have h1 : Out (FB p s wv rs) W w' := (Out.of_below belV').trans out' fun g hg => .inl (.inr (.inr (.inl hg)))
    exact h1.trans R2 fun g hg => .inl (.inl hg)
  · rintro g (h1 | h1 | h1 | ⟨q, hq, h1⟩)
    · exact .inl (.inl h1)
    · exact .inl (.inr (.inl h1))
    · rcases at' with h2 | h2
      · exact .inl (.inr (.inr (.inl (by rw [← h2]; exact h1))))
      · rw [h1] at h2
        simp at h2
        exact .inr (.inl (by have := belV'.size; omega))
    · rcases List.mem_append.1 hq with hq | hq
      · exact .inl (.inr (.inr (.inr ⟨q, hq, h1⟩)))
      · simp at hq
        subst hq
        exact .inr (.inr h1)
  · obtain ⟨a, c, hv, _⟩ := own'.row.shape
    exact ⟨a, _, c, hv⟩

/-- A raw step is counted. -/
theorem count_tail {p : Nat} {w : World} {st : Dm.Ds} {s : Nat → Value} {wv : Value} {rs : List Rv} (h : PkV p w st s wv rs) (hh : st.has = false) :
    ∃ V, w.setCell ⟨p, 8, none⟩ (.int .i64 ((st.count : Int) + 1)) = V ∧ PkV p V (Dm.burn st) s wv rs ∧ Out (FB p s wv rs) w V ∧ V.heap.size = w.heap.size ∧ ∀ g, g ≠ p → V.heap[g]? = w.heap[g]? := by
  have hb : Dm.burn st = { st with count := st.count + 1 } := by simp [Dm.burn, hh]
  obtain ⟨R1, R2⟩ := h.set (st' := Dm.burn st) 8 (.int .i64 ((st.count : Int) + 1)) (by rw [hb]; simp [pcells, pfuse, hh]) (by rw [hb]) (by rw [hb])
  exact ⟨_, rfl, R1, R2, by simp [World.setCell], fun g hg => Below.heap_setCell _ _ _ _ hg⟩

theorem burn_tail {p : Nat} {w : World} {st : Dm.Ds} {s : Nat → Value} {wv : Value} {rs : List Rv} (h : PkV p w st s wv rs) (hh : st.has = true) (hl : 1 ≤ st.left) :
    ∃ U V, w.setCell ⟨p, 2, none⟩ (.int .i64 ((st.left : Int) - 1)) = U ∧ U.setCell ⟨p, 8, none⟩ (.int .i64 ((st.count : Int) + 1)) = V ∧ U.cell? ⟨p, 8, none⟩ = some (.int .i64 st.count) ∧ U.frozen? ⟨p, 8, none⟩ = false ∧ PkV p V (Dm.burn st) s wv rs ∧ Out (FB p s wv rs) w V ∧ V.heap.size = w.heap.size ∧ ∀ g, g ≠ p → V.heap[g]? = w.heap[g]? := by
  have hb : Dm.burn st = { st with left := st.left - 1, count := st.count + 1 } := by simp [Dm.burn, hh]
  have hsub : ((st.left - 1 : Nat) : Int) = (st.left : Int) - 1 := by omega
  obtain ⟨R1, R2⟩ := h.set (st' := { st with left := st.left - 1 }) 2 (.int .i64 ((st.left : Int) - 1)) (by simp [pcells, pfuse, hh, hsub]) rfl rfl
  obtain ⟨R3, R4⟩ := R1.set (st' := Dm.burn st) 8 (.int .i64 ((st.count : Int) + 1)) (by rw [hb]; simp [pcells, pfuse, hh]) (by rw [hb]) (by rw [hb])
  exact ⟨_, _, rfl, rfl, R1.c8, R1.froz 8, R3, R2.trans R4 fun g hg => .inl hg, by simp [World.setCell], fun g hg => (Below.heap_setCell _ _ _ _ hg).trans (Below.heap_setCell _ _ _ _ hg)⟩

/-- Behind a raw step that became pending. -/
def PDo (p : Nat) (F : Nat → Prop) (w : World) (st' : Dm.Ds) (v : Value) (w' : World) : Prop := ∃ F', Pk p F' w' st' ∧ Out F w w' ∧ ∀ g, F' g → F g ∨ w.heap.size ≤ g ∨ v.ownBlock = some g

theorem PDo.of_step {p : Nat} {F : Nat → Prop} {w w' : World} {st' : Dm.Ds} {v : Value} (h : PStep p F w w' st') : PDo p F w st' v w' := by
  obtain ⟨F', h1, h2, h3⟩ := h
  exact ⟨F', h1, h2, fun g hg => (h3 g hg).elim .inl fun h => .inr (.inl h)⟩

set_option maxRecDepth 20000 in
set_option maxHeartbeats 8000000 in
theorem dopush_any (p : Nat) (F : Nat → Prop) (w : World) (st : Dm.Ds) (r : Rv) (h : Pk p F w st) (hraw : Byt (fun _ => True) w r.v r.bytes) (hra : ∀ b, r.v.ownBlock = some b → ¬ F b) (hfit : Dm.fits (Dm.dof st.sure st.wait) r.r) (hlen : st.wait.length ≤ 1000000) (hl : st.left ≤ 9223372036854775807) (hc : st.count < 9223372036854775807) :
    Calls Try.prog 80 #[.pointer (some ⟨p, 0, none⟩), .agg #[.int .i64 (kof r), .int .i64 r.file, r.v, .int .i64 r.to]] w fun E w' => E = .returned (.int .i64 (if Dm.off st then 6 else 0)) ∧ PDo p F w (if Dm.off st then Dm.dark st else Dm.push (Dm.burn st) r.r) r.v w' := by
  obtain ⟨s, wv, rs, h, rfl⟩ := h
  obtain ⟨a0, n0, k0, hrv⟩ := hraw.1.form
  obtain ⟨w1, hw1, sz1, bel1, hB⟩ := blk_step w #[.int .i64 (kof r), .int .i64 r.file, r.v, .int .i64 r.to] 111
  have h1 := h.below bel1
  have c1 := h1.c1
  have c2 := h1.c2
  have c8 := h1.c8
  have f1 := h1.froz 1
  have f2 := h1.froz 2
  have f8 := h1.froz 8
  have hraw1 : Byt (fun _ => True) w1 r.v r.bytes := hraw.agree fun b hb => by obtain ⟨_, cs, fr, hc⟩ := hraw.2 b hb; exact bel1.block b (blk_lt hc)
  have hra1 : ∀ f, f < 4 → ∀ b, r.v.ownBlock = some b → (s f).ownBlock ≠ some b := fun f hf b hb h2 => hra b hb (.inr (.inl ⟨f, hf, h2⟩))
  have hnp : ∀ b, r.v.ownBlock = some b → b ≠ p := fun b hb h2 => hra b hb (.inl h2)
  have hpw : p < w.heap.size := blk_lt h.blk
  have hlr := h.con.len
  have hkof : kof r = 0 ∨ kof r = 1 := by unfold kof; split <;> simp
  by_cases hoff : Dm.off st = true
  · rw [hoff, if_pos rfl, if_pos rfl]
    have hz : pfuse st = 0 := by
      simp [Dm.off] at hoff
      simp [pfuse, hoff.1, hoff.2]
    obtain ⟨R1, R2⟩ := h1.set (st' := Dm.dark st) 1 (.bool false) rfl rfl rfl
    have HR : Hid (PDo p (FB p s wv rs) w (Dm.dark st) r.v (w1.setCell ⟨p, 1, none⟩ (.bool false))) := hide (PDo.of_step (PStep.pre bel1 (PStep.of_set R1 R2)))
    rw [hz] at c2
    rw [hrv] at hw1 HR ⊢
    clear h h1 R1 R2 hB hraw hraw1 hra hra1 hnp hfit hlr hz hoff hrv
    go_enter Try.func80, Try.ntmps80
    go_wp2
    go_ret
    exact ⟨rfl, HR.out⟩
  · have hoff' : Dm.off st = false := by simpa using hoff
    rw [hoff', if_neg (by simp), if_neg (by simp)]
    cases hh : st.has
    · have hz : pfuse st = -1 := by simp [pfuse, hh]
      obtain ⟨W, hW, hPW, hOW, szW, keW⟩ := count_tail h1 hh
      have hBW := (keW w.heap.size (by omega)).trans hB
      have x0 : W.cell? ⟨w.heap.size, 0, none⟩ = some (.int .i64 (kof r)) := blk_cell hBW 0 rfl
      have x1 : W.cell? ⟨w.heap.size, 1, none⟩ = some (.int .i64 r.file) := blk_cell hBW 1 rfl
      have x2 : W.cell? ⟨w.heap.size, 2, none⟩ = some r.v := blk_cell hBW 2 rfl
      have x3 : W.cell? ⟨w.heap.size, 3, none⟩ = some (.int .i64 r.to) := blk_cell hBW 3 rfl
      have hb : (Dm.burn st).sure = st.sure ∧ (Dm.burn st).wait = st.wait := ⟨rfl, rfl⟩
      obtain ⟨V, hV, v7, X⟩ := push_tail hPW r (hraw1.agree fun b hb => keW b (hnp b hb)) hra1 (by rw [hb.1, hb.2]; exact hfit) (by omega)
      have X2 : Hid (∀ ty, ∃ v' w', (Builtin.append_ #[57, 57] ty #[wv, .slice (some ⟨W.heap.size, 0, none⟩) 1 1]).run Try.prog V = .ok v' w' ∧ (PDo p (FB p s wv rs) w (Dm.push (Dm.burn st) r.r) r.v (w'.setCell ⟨p, 7, none⟩ v') ∧ w'.cell? ⟨p, 7, none⟩ = some wv ∧ w'.frozen? ⟨p, 7, none⟩ = false ∧ ∃ a n c, v' = .slice a n c)) := hide fun ty => by
        obtain ⟨v', w', hr, ⟨F', g1, g2, g3⟩, h3⟩ := X.out ty
        refine ⟨v', w', hr, ⟨F', g1, ((Out.of_below bel1).trans hOW fun g hg => .inl hg).trans g2 fun g hg => .inl hg, fun g hg => ?_⟩, h3⟩
        rcases g3 g hg with h4 | h4 | h4
        · exact .inl h4
        · exact .inr (.inl (by omega))
        · exact .inr (.inr h4)
      have w7 : W.cell? ⟨p, 7, none⟩ = some wv := hPW.c7
      rw [hz] at c2
      rw [hrv] at hw1 x2 hV X2 ⊢
      have hcw : IntKind.i64.wrap ((st.count : Int) + 1) = (st.count : Int) + 1 := wrap64s _ (by omega) (by omega)
      rcases hkof with hk | hk
      · rw [hk] at hw1 x0 hV ⊢
        clear h h1 hB hraw hraw1 hra hra1 hnp hfit hlr hz hoff hoff' hrv hPW hOW keW hBW hb X hk hh
        go_enter Try.func80, Try.ntmps80
        go_wp2_with fail
        go_region_law (refine step_append_at rfl (.tmp 41) (.tmp 43) 57 rfl wv (.slice (some ⟨W.heap.size, 0, none⟩) 1 1) (by first | rfl | (simp [Act.eval]; done)) (by first | rfl | (simp [Act.eval]; done)) X2.out ?_; rintro v5 w5 ⟨J, d7, g7, a5, n5, c5, rfl⟩; have J := hide J)
        all_goals
          go_wp2
          go_ret
          exact ⟨rfl, J.out⟩
      · rw [hk] at hw1 x0 hV ⊢
        clear h h1 hB hraw hraw1 hra hra1 hnp hfit hlr hz hoff hoff' hrv hPW hOW keW hBW hb X hk hh
        go_enter Try.func80, Try.ntmps80
        go_wp2_with fail
        go_region_law (refine step_append_at rfl (.tmp 41) (.tmp 43) 57 rfl wv (.slice (some ⟨W.heap.size, 0, none⟩) 1 1) (by first | rfl | (simp [Act.eval]; done)) (by first | rfl | (simp [Act.eval]; done)) X2.out ?_; rintro v5 w5 ⟨J, d7, g7, a5, n5, c5, rfl⟩; have J := hide J)
        all_goals
          go_wp2
          go_ret
          exact ⟨rfl, J.out⟩
    · have hl1 : 1 ≤ st.left := by
        simp [Dm.off, hh] at hoff
        omega
      have hz : pfuse st = st.left := by simp [pfuse, hh]
      obtain ⟨U, W, hU, hW, u8, fu8, hPW, hOW, szW, keW⟩ := burn_tail h1 hh hl1
      have hBW := (keW w.heap.size (by omega)).trans hB
      have x0 : W.cell? ⟨w.heap.size, 0, none⟩ = some (.int .i64 (kof r)) := blk_cell hBW 0 rfl
      have x1 : W.cell? ⟨w.heap.size, 1, none⟩ = some (.int .i64 r.file) := blk_cell hBW 1 rfl
      have x2 : W.cell? ⟨w.heap.size, 2, none⟩ = some r.v := blk_cell hBW 2 rfl
      have x3 : W.cell? ⟨w.heap.size, 3, none⟩ = some (.int .i64 r.to) := blk_cell hBW 3 rfl
      have hb : (Dm.burn st).sure = st.sure ∧ (Dm.burn st).wait = st.wait := ⟨rfl, rfl⟩
      obtain ⟨V, hV, v7, X⟩ := push_tail hPW r (hraw1.agree fun b hb => keW b (hnp b hb)) hra1 (by rw [hb.1, hb.2]; exact hfit) (by omega)
      have X2 : Hid (∀ ty, ∃ v' w', (Builtin.append_ #[57, 57] ty #[wv, .slice (some ⟨W.heap.size, 0, none⟩) 1 1]).run Try.prog V = .ok v' w' ∧ (PDo p (FB p s wv rs) w (Dm.push (Dm.burn st) r.r) r.v (w'.setCell ⟨p, 7, none⟩ v') ∧ w'.cell? ⟨p, 7, none⟩ = some wv ∧ w'.frozen? ⟨p, 7, none⟩ = false ∧ ∃ a n c, v' = .slice a n c)) := hide fun ty => by
        obtain ⟨v', w', hr, ⟨F', g1, g2, g3⟩, h3⟩ := X.out ty
        refine ⟨v', w', hr, ⟨F', g1, ((Out.of_below bel1).trans hOW fun g hg => .inl hg).trans g2 fun g hg => .inl hg, fun g hg => ?_⟩, h3⟩
        rcases g3 g hg with h4 | h4 | h4
        · exact .inl h4
        · exact .inr (.inl (by omega))
        · exact .inr (.inr h4)
      have w7 : W.cell? ⟨p, 7, none⟩ = some wv := hPW.c7
      rw [hz] at c2
      rw [hrv] at hw1 x2 hV X2 ⊢
      have hcw : IntKind.i64.wrap ((st.count : Int) + 1) = (st.count : Int) + 1 := wrap64s _ (by omega) (by omega)
      have hlw : IntKind.i64.wrap ((st.left : Int) - 1) = (st.left : Int) - 1 := wrap64s _ (by omega) (by omega)
      have hl0 : ((st.left : Int) == 0) = false := beq_eq_false_iff_ne.2 (by omega)
      have hlm : ((st.left : Int) == -1) = false := beq_eq_false_iff_ne.2 (by omega)
      rcases hkof with hk | hk
      · rw [hk] at hw1 x0 hV ⊢
        clear h h1 hB hraw hraw1 hra hra1 hnp hfit hlr hz hoff hoff' hrv hPW hOW keW hBW hb X hk hh
        go_enter Try.func80, Try.ntmps80
        go_wp2_with fail
        go_region_law (refine step_append_at rfl (.tmp 41) (.tmp 43) 57 rfl wv (.slice (some ⟨W.heap.size, 0, none⟩) 1 1) (by first | rfl | (simp [Act.eval]; done)) (by first | rfl | (simp [Act.eval]; done)) X2.out ?_; rintro v5 w5 ⟨J, d7, g7, a5, n5, c5, rfl⟩; have J := hide J)
        all_goals
          go_wp2
          go_ret
          exact ⟨rfl, J.out⟩
      · rw [hk] at hw1 x0 hV ⊢
        clear h h1 hB hraw hraw1 hra hra1 hnp hfit hlr hz hoff hoff' hrv hPW hOW keW hBW hb X hk hh
        go_enter Try.func80, Try.ntmps80
        go_wp2_with fail
        go_region_law (refine step_append_at rfl (.tmp 41) (.tmp 43) 57 rfl wv (.slice (some ⟨W.heap.size, 0, none⟩) 1 1) (by first | rfl | (simp [Act.eval]; done)) (by first | rfl | (simp [Act.eval]; done)) X2.out ?_; rintro v5 w5 ⟨J, d7, g7, a5, n5, c5, rfl⟩; have J := hide J)
        all_goals
          go_wp2
          go_ret
          exact ⟨rfl, J.out⟩

end Go.Proofs.Ytimmohpnlieefaa
