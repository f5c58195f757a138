/- The program's disk: tear. -/
import Derived.Test.YtimmohpnlieefaaPd
namespace Go.Proofs.Ytimmohpnlieefaa
open Go.RowKit Go.Shelf
set_option linter.unusedVariables false

/-- A disk in the midst of a change: what is pending may not fit what is durable. -/
def Mid (p : Nat) (F : Nat → Prop) (w : World) (st : Dm.Ds) (wr : World) : Prop :=
  ∃ s wv rs, wr.heap[p]? = some (.cells (pcells s wv st.on (pfuse st) st.count) 59 (0, 0)) ∧ Con wr st.sure st.wait s wv rs ∧ Out F w wr ∧ ∀ g, FB p s wv rs g → F g ∨ w.heap.size ≤ g

/-- What the first bytes of the next raw write add. -/
def torn (st : Dm.Ds) (t : Nat) : Nat → List Int :=
  match st.wait[0]? with
  | some r => if r.cut then st.sure else Dm.one st.sure ⟨r.file, false, 0, r.bytes.take (min t (r.bytes.length - 1))⟩
  | none => st.sure

theorem Mid.of {p : Nat} {F : Nat → Prop} {w : World} {st : Dm.Ds} (h : Pk p F w st) : Mid p F w st w := by
  obtain ⟨s, wv, rs, h, rfl⟩ := h
  exact ⟨s, wv, rs, h.blk, h.con, Out.refl _ _, fun g hg => .inl hg⟩

set_option maxRecDepth 20000 in
set_option maxHeartbeats 8000000 in
theorem tear_any (p : Nat) (F : Nat → Prop) (w : World) (st : Dm.Ds) (t : Nat) (h : Pk p F w st) (ht : t ≤ 9223372036854775807) (hsz : ∀ f, (st.sure f).length + Dm.bulk st.wait ≤ 140737488355000) (hw : st.wait.length ≤ 1000000) :
    Calls Try.prog 69 #[.pointer (some ⟨p, 0, none⟩), .int .i64 t] w fun E w' => (∃ v, E = .returned v) ∧ Mid p F w { st with sure := torn st t } w' := by
  have M0 := hide (Mid.of h)
  obtain ⟨s, wv, rs, h, rfl⟩ := h
  have hlr := h.con.len
  have c7 := h.c7
  obtain ⟨ao, cap, hv, hcap, hcm⟩ := h.con.row.row.shape
  cases hrs : rs with
  | nil =>
    subst hrs
    have e : torn st t = st.sure := by
      have : st.wait = [] := List.eq_nil_of_length_eq_zero (by simpa using hlr)
      simp [torn, this]
    rw [e]
    rw [hv] at c7
    clear h hlr hv e
    go_enter Try.func69, Try.ntmps69
    go_wp2
    refine bodyPost_ret (results_none rfl _ _ _) rfl ?_
    exact ⟨⟨_, rfl⟩, M0.out⟩
  | cons r rl =>
    have hr : rs[0]? = some r := by rw [hrs]; rfl
    have hpos : 0 < rs.length := by rw [hrs]; simp
    have hst : st.wait[0]? = some r.r := by rw [← h.con.wait, List.getElem?_map, hr]; rfl
    rw [← hrs]
    obtain ⟨g, hao, hg⟩ : ∃ b, ao = some ⟨b, 0, none⟩ ∧ wv.ownBlock = some b := by
      rcases h.con.row.2 with ⟨_, h1⟩ | ⟨g, cap', cur, h1, _⟩
      · omega
      · rw [hv] at h1
        simp only [Value.slice.injEq, true_and] at h1
        exact ⟨g, h1.1, by rw [hv, h1.1]; rfl⟩
    subst hao
    have hcell := fun j u hj => h.con.row.cells hg (0 * 4 + j) u (gcells_at stepc_len rs 0 r hr j u hj)
    have e0 : w.cell? ⟨g, 0, none⟩ = some (.int .i64 (kof r)) := by have := hcell 0 _ rfl; rwa [add_at] at this
    have e1 : w.cell? ⟨g, 1, none⟩ = some (.int .i64 r.file) := by have := hcell 1 _ rfl; rwa [add_at] at this
    have e2 : w.cell? ⟨g, 2, none⟩ = some r.v := by have := hcell 2 _ rfl; rwa [add_at] at this
    have e3 : w.cell? ⟨g, 3, none⟩ = some (.int .i64 r.to) := by have := hcell 3 _ rfl; rwa [add_at] at this
    have hL : ((rs.length : Int) == 0) = false := beq_eq_false_iff_ne.2 (by omega)
    have hpos' : (0 : Int) < rs.length := by omega
    rw [hv] at c7
    cases hc : r.cut
    · have hk : kof r = 0 := by simp [kof, hc]
      rw [hk] at e0
      have hfit := Dm.valid_at h.ok hst
      have hf : r.file < 4 := hfit.1
      have hbn : 1 ≤ r.bytes.length := (hfit.2.2 hc).1
      have hbn2 : r.bytes.length ≤ 64 := (hfit.2.2 hc).2
      have hsur : Dm.dof st.sure (st.wait.take 0) = st.sure := by simp [Dm.dof]
      obtain ⟨q, hq⟩ : ∃ q, q = min t (r.bytes.length - 1) := ⟨_, rfl⟩
      have hql : q ≤ r.bytes.length := by omega
      have isr := (h.con.raw r (List.mem_of_getElem? hr)).1
      obtain ⟨b, off, cr, hrv, hcr, hcrm, hbw, _⟩ := isr.full (by omega)
      obtain ⟨V, hV, hV2, szV, belV, bV, x0, x1, x2, x3⟩ := new_four w 111 (.int .i64 0) (.int .i64 0) (.slice none 0 0) (.int .i64 0) (.int .i64 0) (.int .i64 r.file) (.slice (some ⟨b, off, none⟩) r.bytes.length cr) (.int .i64 r.to)
      have isq : Is .u8 w (.slice (some ⟨b, off, none⟩) q cr) (r.bytes.take q) := by
        rw [hrv] at isr
        exact isr.cut q hql
      obtain ⟨V2, hV3⟩ : ∃ V2, V.setCell ⟨w.heap.size, 2, none⟩ (.slice (some ⟨b, off, none⟩) q cr) = V2 := ⟨_, rfl⟩
      have bV2 : V2.heap[w.heap.size]? = some (.cells #[.int .i64 0, .int .i64 r.file, .slice (some ⟨b, off, none⟩) q cr, .int .i64 r.to] 111 (0, 0)) := by rw [← hV3, set_cells bV]; rfl
      have belV2 : Below w.heap.size w V2 := by rw [← hV3]; exact belV.grown (grown_setCell V ⟨w.heap.size, 2, none⟩ _) (by omega) fun k hk => by simp at hk; omega
      have szV2 : V2.heap.size = w.heap.size + 1 := by rw [← hV3]; simp [World.setCell, szV]
      have z0 : V2.cell? ⟨w.heap.size, 0, none⟩ = some (.int .i64 0) := blk_cell bV2 0 rfl
      have z1 : V2.cell? ⟨w.heap.size, 1, none⟩ = some (.int .i64 r.file) := blk_cell bV2 1 rfl
      have z2 : V2.cell? ⟨w.heap.size, 2, none⟩ = some (.slice (some ⟨b, off, none⟩) q cr) := blk_cell bV2 2 rfl
      have z3 : V2.cell? ⟨w.heap.size, 3, none⟩ = some (.int .i64 r.to) := blk_cell bV2 3 rfl
      have fz2 : V.frozen? ⟨w.heap.size, 2, none⟩ = false := blk_froz bV 2
      have cfv : V2.cell? ⟨p, 3 + r.file, none⟩ = some (s r.file) := (belV2.cell (p := ⟨p, 3 + r.file, none⟩) (blk_lt h.blk)).trans (h.cf r.file hf)
      obtain ⟨af, nf, cpf, hsf⟩ := (h.con.file r.file hf).is.form
      have hne : ∀ b, (s r.file).ownBlock = some b → b < w.heap.size := fun b hb => ((h.con.file r.file hf).block b hb).2
      have hszf := hsz r.file
      have et : torn st t = Dm.upd st.sure r.file (st.sure r.file ++ r.bytes.take q) := by
        simp [torn, hst, Rv.r, hc, Dm.one, Dm.wth, hq]
      have BI : Hid (Calls Try.prog 91 #[.agg #[.int .i64 0, .int .i64 r.file, .slice (some ⟨b, off, none⟩) q cr, .int .i64 r.to], s r.file] V2.drew fun E w2 => ∃ v2, E = .returned v2 ∧ (Mid p (FB p s wv rs) w { st with sure := torn st t } (w2.setCell ⟨p, 3 + r.file, none⟩ v2) ∧ (w2.cell? ⟨w.heap.size, 0, none⟩ = some (.int .i64 0) ∧ w2.cell? ⟨w.heap.size, 1, none⟩ = some (.int .i64 r.file) ∧ w2.cell? ⟨w.heap.size, 2, none⟩ = some (.slice (some ⟨b, off, none⟩) q cr) ∧ w2.cell? ⟨w.heap.size, 3, none⟩ = some (.int .i64 r.to)) ∧ w2.cell? ⟨p, 3 + r.file, none⟩ = some (s r.file) ∧ w2.frozen? ⟨p, 3 + r.file, none⟩ = false ∧ ∃ a n c, v2 = .slice a n c)) := hide (by
        refine (behind_any 0 (s r.file) _ ⟨r.file, false, r.to, .slice (some ⟨b, off, none⟩) q cr, r.bytes.take q⟩ V2.drew (((h.con.file r.file hf).below belV2).drewN 1) (Nat.zero_le _) ((isq.below belV2).drewN 1) (fun hc => by simp at hc) (by simp only [List.length_take]; omega)).mono ?_
        rintro E w2 ⟨v2, rfl, own2, out2, at2⟩
        have out2' : Out (fun g => (s r.file).ownBlock = some g) w w2 := (Out.of_below (F := fun g => (s r.file).ownBlock = some g) (belV2.trans (below_drewN (Below.refl _ _) 1))).trans out2 fun g hg => .inl hg
        have hb2 : w2.heap[w.heap.size]? = some (.cells #[.int .i64 0, .int .i64 r.file, .slice (some ⟨b, off, none⟩) q cr, .int .i64 r.to] 111 (0, 0)) := (out2.block w.heap.size (show w.heap.size < V2.heap.size by omega) fun h => by have := hne _ h; omega).trans bV2
        have hnp : ∀ b, (s r.file).ownBlock = some b → b ≠ p := (h.con.ne h.blk (by decide) (by decide)).1 r.file hf
        have hp2 : w2.heap[p]? = some (.cells (pcells s wv st.on (pfuse st) st.count) 59 (0, 0)) := (out2'.block p (blk_lt h.blk) fun h => hnp p h rfl).trans h.blk
        have hat : ∀ b, v2.ownBlock = some b → (s r.file).ownBlock = some b ∨ w.heap.size ≤ b := fun b hb => by
          rcases at2 b hb with h1 | h1
          · exact .inl h1
          · exact .inr (by have h2 : V2.drew.heap.size = V2.heap.size := rfl; omega)
        have hC2 := h.con.files hf own2 out2' hat
        have e5 : Dm.upd st.sure r.file (Dm.wth (st.sure r.file) (Rv.r ⟨r.file, false, r.to, .slice (some ⟨b, off, none⟩) q cr, r.bytes.take q⟩)) = torn st t := by rw [et]; rfl
        rw [e5] at hC2
        refine ⟨v2, rfl, ⟨sup s r.file v2, wv, rs, by rw [set_cells hp2, pcells_sup _ _ _ _ _ _ hf]; rfl, hC2.but hp2 (by decide) (by decide) fun b hb _ => Below.heap_setCell _ _ _ _ hb, ?_, FB.files hf hat⟩, ⟨blk_cell hb2 0 rfl, blk_cell hb2 1 rfl, blk_cell hb2 2 rfl, blk_cell hb2 3 rfl⟩, pc_f (cs := #[]) hp2 r.file hf, blk_froz hp2 _, own2.is.form⟩
        have h1 : Out (FB p s wv rs) w w2 := out2'.mono fun g hg => .inl (.inr (.inl ⟨_, hf, hg⟩))
        exact h1.trans (Out.of_grown (F := fun g => g = p) (grown_setCell w2 ⟨p, 3 + r.file, none⟩ v2) fun g hg => by simp at hg; exact hg.symm) fun g hg => .inl (.inl hg))
      have hf0 : (0 : Int) ≤ (r.file : Int) := by omega
      have hf4 : (r.file : Int) < 4 := by omega
      have hcr0 : ¬ cr = 0 := by omega
      have hwr : IntKind.i64.wrap ((r.bytes.length : Int) - 1) = (r.bytes.length : Int) - 1 := wrap64s _ (by omega) (by omega)
      have hmin : (if (r.bytes.length : Int) - 1 < (t : Int) then (r.bytes.length : Int) - 1 else (t : Int)) = (q : Int) := by split <;> omega
      have hq0 : (0 : Int) ≤ (q : Int) := by omega
      have hqc : (q : Int) ≤ cr := by omega
      rw [hsf] at cfv BI
      rw [hrv] at e2
      clear hcell hr hst hfit hszf isr isq hne h hsf hg et bV bV2 hrv hk hsur hq hlr hv hrs
      go_enter Try.func69, Try.ntmps69
      go_wp2_with fail
      go_region_law (refine call_at rfl 91 #[.tmp 40, .tmp 47] #[111, 37] rfl Try.enters91 #[.agg #[.int .i64 0, .int .i64 r.file, .slice (some ⟨b, off, none⟩) q cr, .int .i64 r.to], .slice af nf cpf] (by first | rfl | (simp [Act.eval]; done)) BI.out ?_; rintro v2 w2 ⟨J, ⟨y0, y1, y2, y3⟩, cp2, fp2, a2, n2, c2, rfl⟩; have J := hide J)
      all_goals
        go_wp2
        go_end0
        exact ⟨⟨_, rfl⟩, J.out⟩
    · have hk : kof r = 1 := by simp [kof, hc]
      rw [hk] at e0
      have e : torn st t = st.sure := by simp [torn, hst, Rv.r, hc]
      rw [e]
      clear h hlr hv e hk hcell hr hst hrs
      go_enter Try.func69, Try.ntmps69
      go_wp2
      refine bodyPost_ret (results_none rfl _ _ _) rfl ?_
      exact ⟨⟨_, rfl⟩, M0.out⟩

end Go.Proofs.Ytimmohpnlieefaa
