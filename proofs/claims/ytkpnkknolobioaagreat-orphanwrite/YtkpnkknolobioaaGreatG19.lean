/- Texts of one layer, one behind the other. -/
import Derived.Test.YtkpnkknolobioaaGreatG18
import Derived.Deep.RegionHeld3
import Derived.Shelf.Abstract
/- The program's disk: settle. -/
namespace Go.Proofs.YtkpnkknolobioaaGreat
open Go.RowKit Go.Shelf
set_option linter.unusedVariables false

theorem pcells_sup (s : Nat → Value) (wv : Value) (on : Bool) (fuse count : Int) (f : Nat) (hf : f < 4) (v : Value) : (pcells s wv on fuse count).setIfInBounds (3 + f) v = pcells (sup s f v) wv on fuse count := by
  rcases (show f = 0 ∨ f = 1 ∨ f = 2 ∨ f = 3 by omega) with rfl | rfl | rfl | rfl <;> simp [pcells, sup]

theorem dof_next {l : List Dm.Rw} {k : Nat} {r : Dm.Rw} (h : l[k]? = some r) (s : Nat → List Int) : Dm.dof s (l.take (k + 1)) = Dm.one (Dm.dof s (l.take k)) r := by rw [wtake_next h, Dm.dof_snoc]

theorem dof_len (s : Nat → List Int) (l : List Dm.Rw) (f : Nat) : (Dm.dof s l f).length ≤ (s f).length + Dm.bulk l := by
  rw [← Dm.hold_dof]
  exact Dm.hold_len l (s f) f

theorem OwnG.slice_h {P : Program} {α : Type} {c : α → List Value} {k e base : Nat} {w : World} {l : List α} {ao : Option Addr} {cap : Nat} (h : OwnG c k e base w (.slice ao l.length cap) l) {t : TypeId} (ht : P.underlying t = some (.slice (P.elem t))) (hs : ∀ wx, (sizeOf (P.elem t)).run P wx = .ok k wx) (n : Nat) (hn : n ≤ l.length) :
    ∀ wx, (Instr.slice t (.slice ao l.length cap) none (some (.int .i64 n)) none).run P wx = .ok (.slice ao n cap) wx := by
  intro wx
  rcases h.2 with ⟨hv, hz⟩ | ⟨g, cap', cur, hv, _, _, hc, _⟩
  · simp only [Value.slice.injEq] at hv
    obtain ⟨rfl, _, rfl⟩ := hv
    rw [run_slice_h wx t none l.length 0 ht .i64 _ (by omega) (by omega), hs]
    simp [Result.andThen, sliced]
  · simp only [Value.slice.injEq, true_and] at hv
    obtain ⟨rfl, rfl⟩ := hv
    rw [run_slice_h wx t _ l.length cap ht .i64 _ (by omega) (by omega), hs]
    simp [Result.andThen, sliced, Addr.add]

/-- Between two rounds of settle. -/
def SInv (p : Nat) (w : World) (st : Dm.Ds) (s : Nat → Value) (wv : Value) (rs : List Rv) (k : Nat) (wr : World) : Prop :=
  ∃ s', wr.heap[p]? = some (.cells (pcells s' wv st.on (pfuse st) st.count) 47 (0, 0)) ∧ Con wr (Dm.dof st.sure (st.wait.take k)) st.wait s' wv rs ∧ Out (FB p s wv rs) w wr ∧ ∀ g, FB p s' wv rs g → FB p s wv rs g ∨ w.heap.size ≤ g

theorem SInv.next {p : Nat} {w : World} {st : Dm.Ds} {s s' : Nat → Value} {wv : Value} {rs : List Rv} {k : Nat} {wr w2 : World} {r : Rv} {v : Value}
    (hB : wr.heap[p]? = some (.cells (pcells s' wv st.on (pfuse st) st.count) 47 (0, 0))) (hC : Con wr (Dm.dof st.sure (st.wait.take k)) st.wait s' wv rs) (hO : Out (FB p s wv rs) w wr) (hF : ∀ g, FB p s' wv rs g → FB p s wv rs g ∨ w.heap.size ≤ g)
    (hk : st.wait[k]? = some r.r) (hf : r.file < 4) (ho : Out (fun g => (s' r.file).ownBlock = some g) wr w2) (hown : Own .u8 5 0 w2 v (Dm.wth (Dm.dof st.sure (st.wait.take k) r.file) r.r)) (hat : ∀ b, v.ownBlock = some b → (s' r.file).ownBlock = some b ∨ wr.heap.size ≤ b) :
    SInv p w st s wv rs (k + 1) (w2.setCell ⟨p, 3 + r.file, none⟩ v) := by
  have hB2 : w2.heap[p]? = some (.cells (pcells s' wv st.on (pfuse st) st.count) 47 (0, 0)) := (ho.block p (blk_lt hB) fun h => (hC.ne hB (by decide) (by decide)).1 r.file hf p h rfl).trans hB
  have hC2 := hC.files hf hown ho hat
  refine ⟨sup s' r.file v, by rw [set_cells hB2, pcells_sup _ _ _ _ _ _ hf], ?_, ?_, fun g hg => ?_⟩
  · have e : Dm.dof st.sure (st.wait.take (k + 1)) = Dm.upd (Dm.dof st.sure (st.wait.take k)) r.file (Dm.wth (Dm.dof st.sure (st.wait.take k) r.file) r.r) := by rw [dof_next hk]; rfl
    rw [e]
    exact hC2.but hB2 (by decide) (by decide) fun b hb _ => Below.heap_setCell _ _ _ _ hb
  · have h1 : Out (FB p s wv rs) w w2 := hO.trans ho fun g hg => hF g (.inr (.inl ⟨_, hf, hg⟩))
    exact h1.trans (Out.of_grown (F := fun g => g = p) (grown_setCell w2 ⟨p, 3 + r.file, none⟩ v) fun g hg => by simp at hg; exact hg.symm) fun g hg => .inl (.inl hg)
  · rcases FB.files hf hat g hg with h1 | h1
    · exact hF g h1
    · exact .inr (Nat.le_trans hO.size h1)

theorem Tryz.enters71 : ∀ args w, (callFunc 71 args).run Tryz.prog w = .ok (.enter 71 args) w := enters_of Tryz.func71 (by kernel_rfl) rfl

set_option maxRecDepth 20000 in
set_option maxHeartbeats 8000000 in
theorem settle_any (p : Nat) (F : Nat → Prop) (w : World) (st : Dm.Ds) (n : Nat) (h : Pk p F w st) (hn : n ≤ st.wait.length) (hsz : ∀ f, (st.sure f).length + Dm.bulk st.wait ≤ 140737488355000) (hw : st.wait.length ≤ 1000000) :
    Calls Tryz.prog 51 #[.pointer (some ⟨p, 0, none⟩), .int .i64 n] w fun E w' => (∃ v, E = .returned v) ∧ PStep p F w w' { st with sure := Dm.dof st.sure (st.wait.take n), wait := st.wait.drop n } := by
  obtain ⟨s, wv, rs, h, rfl⟩ := h
  have hlr := h.con.len
  have c7 := h.c7
  obtain ⟨ao, cap, hv, hcap, hcm⟩ := h.con.row.row.shape
  have hsl : ∀ wx, (Instr.slice 45 wv none (some (.int .i64 n)) none).run Tryz.prog wx = .ok (.slice ao n cap) wx := by
    have := h.con.row
    rw [hv] at this ⊢
    exact this.slice_h Tryz.elemD Tryz.sizeD n (by omega)
  have hao : 0 < rs.length → ∃ b, ao = some ⟨b, 0, none⟩ ∧ wv.ownBlock = some b := by
    intro h0
    rcases h.con.row.2 with ⟨_, h1⟩ | ⟨g, cap', cur, h1, _⟩
    · omega
    · rw [hv] at h1
      simp only [Value.slice.injEq, true_and] at h1
      exact ⟨g, h1.1, by rw [hv, h1.1]; rfl⟩
  have H := hide h
  have HAO := hide hao
  have HLR := hide hlr
  have hnL : n ≤ rs.length := by omega
  have I0 : Hid (SInv p w st s wv rs 0 w) := hide ⟨s, h.blk, by simpa [Dm.dof] using h.con, Out.refl _ _, fun g hg => .inl hg⟩
  clear h hao hlr hv
  go_enter Tryz.func51, Tryz.ntmps51
  go_wp2
  go_loopw [13] (fun iv wr => ∃ k : Nat, k ≤ n ∧ iv = .int .i64 k ∧ Hid (SInv p w st s wv rs k wr)) (fun iv _ => n - (intOf iv).toNat)
  case atStart => exact ⟨0, by omega, rfl, I0⟩
  case round =>
    obtain ⟨k, hk, rfl, I⟩ := hrel
    obtain ⟨s', hB, hC, hO, hF⟩ := I.out
    have HO := hide hO
    have HF := hide hF
    have HBp := hide hB
    by_cases hlt : k < n
    · obtain ⟨g, rfl, hg⟩ := HAO.out (by omega)
      obtain ⟨r, hr⟩ : ∃ r, rs[k]? = some r := ⟨rs[k], by rw [List.getElem?_eq_getElem]⟩
      have hcell := fun j u hj => hC.row.cells hg (k * 4 + j) u (gcells_at stepc_len rs k r hr j u hj)
      have e0 : wr.cell? ⟨g, k * 4, none⟩ = some (.int .i64 (kof r)) := by have := hcell 0 _ rfl; rwa [add_at, Nat.zero_add] at this
      have e1 : wr.cell? ⟨g, k * 4 + 1, none⟩ = some (.int .i64 r.file) := by have := hcell 1 _ rfl; rwa [add_at, Nat.zero_add] at this
      have e2 : wr.cell? ⟨g, k * 4 + 2, none⟩ = some r.v := by have := hcell 2 _ rfl; rwa [add_at, Nat.zero_add] at this
      have e3 : wr.cell? ⟨g, k * 4 + 3, none⟩ = some (.int .i64 r.to) := by have := hcell 3 _ rfl; rwa [add_at, Nat.zero_add] at this
      obtain ⟨V, hV, hV2, szV, belV, bV, x0, x1, x2, x3⟩ := new_four wr 70 (.int .i64 0) (.int .i64 0) (.slice none 0 0) (.int .i64 0) (.int .i64 (kof r)) (.int .i64 r.file) r.v (.int .i64 r.to)
      have hst : st.wait[k]? = some r.r := by rw [← H.out.con.wait, List.getElem?_map, hr]; rfl
      have hfit := Dm.valid_at H.out.ok hst
      have hf : r.file < 4 := hfit.1
      have hbl := bulk_at hst
      have hdl := dof_len st.sure (st.wait.take k) r.file
      have hszf := hsz r.file
      obtain ⟨ar, cr, hrv, _, _⟩ := (hC.raw r (List.mem_of_getElem? hr)).1.shape
      have ir := ((hC.raw r (List.mem_of_getElem? hr)).1).below belV
      have cfv : V.cell? ⟨p, 3 + r.file, none⟩ = some (s' r.file) := (belV.cell (p := ⟨p, 3 + r.file, none⟩) (blk_lt hB)).trans (pc_f (cs := #[]) hB r.file hf)
      obtain ⟨af, nf, cpf, hsf⟩ := (hC.file r.file hf).is.form
      have hne : ∀ b, (s' r.file).ownBlock = some b → b < wr.heap.size := fun b hb => ((hC.file r.file hf).block b hb).2
      have BI : Hid (Calls Tryz.prog 71 #[.agg #[.int .i64 (kof r), .int .i64 r.file, r.v, .int .i64 r.to], s' r.file] V.drew fun E w2 => ∃ v2, E = .returned v2 ∧ (SInv p w st s wv rs (k + 1) (w2.setCell ⟨p, 3 + r.file, none⟩ v2) ∧ (w2.cell? ⟨wr.heap.size, 0, none⟩ = some (.int .i64 (kof r)) ∧ w2.cell? ⟨wr.heap.size, 1, none⟩ = some (.int .i64 r.file) ∧ w2.cell? ⟨wr.heap.size, 2, none⟩ = some r.v ∧ w2.cell? ⟨wr.heap.size, 3, none⟩ = some (.int .i64 r.to)) ∧ w2.cell? ⟨p, 3 + r.file, none⟩ = some (s' r.file) ∧ w2.frozen? ⟨p, 3 + r.file, none⟩ = false ∧ ∃ a n c, v2 = .slice a n c)) := hide (by
        refine (behind_any 0 (s' r.file) _ r V.drew (((hC.file r.file hf).below belV).drewN 1) (Nat.zero_le _) (ir.drewN 1) (fun hc => hfit.2.1 hc) (by have : r.r.bytes = r.bytes := rfl; rw [this] at hbl; omega)).mono ?_
        rintro E w2 ⟨v2, rfl, own2, out2, at2⟩
        have out2' : Out (fun g => (s' r.file).ownBlock = some g) wr w2 := (Out.of_below (F := fun g => (s' r.file).ownBlock = some g) ((belV).trans (below_drewN (Below.refl _ _) 1))).trans out2 fun g hg => .inl hg
        have hb2 : w2.heap[wr.heap.size]? = some (.cells #[.int .i64 (kof r), .int .i64 r.file, r.v, .int .i64 r.to] 70 (0, 0)) := (out2.block wr.heap.size (show wr.heap.size < V.heap.size by omega) fun h => by have := hne _ h; omega).trans bV
        have hp2 : w2.heap[p]? = some (.cells (pcells s' wv st.on (pfuse st) st.count) 47 (0, 0)) := (out2'.block p (blk_lt hB) fun h => (hC.ne hB (by decide) (by decide)).1 r.file hf p h rfl).trans hB
        refine ⟨v2, rfl, SInv.next hB hC HO.out HF.out hst hf out2' own2 (fun b hb => ?_), ⟨blk_cell hb2 0 rfl, blk_cell hb2 1 rfl, blk_cell hb2 2 rfl, blk_cell hb2 3 rfl⟩, pc_f (cs := #[]) hp2 r.file hf, blk_froz hp2 _, own2.is.form⟩
        rcases at2 b hb with h1 | h1
        · exact .inl h1
        · exact .inr (by have h2 : V.drew.heap.size = V.heap.size := rfl; omega))
      have hlt' : (k : Int) < n := by omega
      have hk0 : (0 : Int) ≤ (k : Int) := by omega
      have hf0 : (0 : Int) ≤ (r.file : Int) := by omega
      have hf4 : (r.file : Int) < 4 := by omega
      have hp : p < wr.heap.size := blk_lt hB
      rw [hrv] at e2 hV hV2 x2 BI
      rw [hsf] at cfv BI
      clear hcell hr hst hfit hbl hdl hszf ir hne hC hO hF hB bV I hrv hsf hg
      go_wp2_with fail
      go_region_law (refine call_at rfl 71 #[.tmp 20, .tmp 27] #[70, 22] rfl Tryz.enters71 #[.agg #[.int .i64 (kof r), .int .i64 r.file, .slice ar r.bytes.length cr, .int .i64 r.to], .slice af nf cpf] (by first | rfl | (simp [Act.eval]; done)) BI.out ?_; rintro v2 w2 ⟨J, ⟨y0, y1, y2, y3⟩, cp2, fp2, a2, n2, c2, rfl⟩; have J := hide J)
      all_goals
        go_wp2
        go_roundw
        case rel => exact ⟨k + 1, by omega, by go_num, J⟩
        case measure => simp [intOf]; omega
    · obtain rfl : k = n := by omega
      have c7r : wr.cell? ⟨p, 7, none⟩ = some wv := blk_cell hB 7 rfl
      have hlt' : ¬ (k : Int) < k := by omega
      have DI : Hid (Calls Tryz.prog 72 #[wv, .int .i64 0, .int .i64 k] wr fun E w4 => ∃ v4, E = .returned v4 ∧ (PStep p (FB p s wv rs) w (w4.setCell ⟨p, 7, none⟩ v4) { st with sure := Dm.dof st.sure (st.wait.take k), wait := st.wait.drop k } ∧ w4.cell? ⟨p, 7, none⟩ = some wv ∧ w4.frozen? ⟨p, 7, none⟩ = false ∧ ∃ a n c, v4 = .slice a n c)) := hide (by
        refine (del_any wr wv rs k hC.row (fun r hr => (hC.raw r hr).1.form) hnL (by have := HLR.out; omega)).mono ?_
        rintro E w4 ⟨v4, rfl, row4, out4, ob4⟩
        have hC4 : Con w4 (Dm.dof st.sure (st.wait.take k)) (st.wait.drop k) s' v4 (rs.drop k) := hC.rows row4 out4 (fun r hr => ⟨hC.raw r (List.mem_of_mem_drop hr), hC.rawa r (List.mem_of_mem_drop hr)⟩) (by rw [← hC.wait, List.map_drop])
        have hp4 : w4.heap[p]? = some (.cells (pcells s' wv st.on (pfuse st) st.count) 47 (0, 0)) := (out4.block p (blk_lt hB) fun h => (hC.ne hB (by decide) (by decide)).2.1 p h rfl).trans hB
        have hok : Dm.valid (Dm.dof st.sure (st.wait.take k)) (st.wait.drop k) := by
          have := H.out.ok
          unfold Dm.Ok at this
          rw [← List.take_append_drop k st.wait, Dm.valid_app] at this
          exact this.2
        obtain ⟨R1, R2⟩ := PkV.put (st' := { st with sure := Dm.dof st.sure (st.wait.take k), wait := st.wait.drop k }) (s' := s') (wv' := v4) (rs' := rs.drop k) hp4 7 v4 rfl hC4 hok
        refine ⟨v4, rfl, ⟨_, ⟨s', v4, rs.drop k, R1, rfl⟩, ?_, ?_⟩, blk_cell hp4 7 rfl, blk_froz hp4 7, ?_⟩
        · have h1 : Out (FB p s wv rs) w w4 := hO.trans out4 fun g hg => hF g (.inr (.inr (.inl hg)))
          exact h1.trans R2 fun g hg => .inl (.inl hg)
        · rintro g (h1 | h1 | h1 | ⟨r, hr, h1⟩)
          · exact hF g (.inl h1)
          · exact hF g (.inr (.inl h1))
          · exact hF g (.inr (.inr (.inl (by rw [← ob4]; exact h1))))
          · exact hF g (.inr (.inr (.inr ⟨r, List.mem_of_mem_drop hr, h1⟩)))
        · obtain ⟨a, c, hv, _⟩ := row4.row.shape
          exact ⟨a, _, c, hv⟩)
      clear hC hO hF hB I HO HF HBp
      go_wp2_with fail
      refine DI.out.mono ?_
      rintro E w4 ⟨v4, rfl, J, c4, f4, a4, n4, k4, rfl⟩
      have J := hide J
      go_wp2
      go_end0
      exact ⟨⟨_, rfl⟩, J.out⟩

end Go.Proofs.YtkpnkknolobioaaGreat

/- The program's disk: tear. -/
namespace Go.Proofs.YtkpnkknolobioaaGreat
open Go.RowKit Go.Shelf
set_option linter.unusedVariables false

/-- A disk in the midst of a change: what is pending may not fit what is durable. -/
def Mid (p : Nat) (F : Nat → Prop) (w : World) (st : Dm.Ds) (wr : World) : Prop :=
  ∃ s wv rs, wr.heap[p]? = some (.cells (pcells s wv st.on (pfuse st) st.count) 47 (0, 0)) ∧ Con wr st.sure st.wait s wv rs ∧ Out F w wr ∧ ∀ g, FB p s wv rs g → F g ∨ w.heap.size ≤ g

/-- What the first bytes of the next raw write add. -/
def torn (st : Dm.Ds) (t : Nat) : Nat → List Int :=
  match st.wait[0]? with
  | some r => if r.cut then st.sure else Dm.one st.sure ⟨r.file, false, 0, r.bytes.take (min t (r.bytes.length - 1))⟩
  | none => st.sure

theorem Mid.of {p : Nat} {F : Nat → Prop} {w : World} {st : Dm.Ds} (h : Pk p F w st) : Mid p F w st w := by
  obtain ⟨s, wv, rs, h, rfl⟩ := h
  exact ⟨s, wv, rs, h.blk, h.con, Out.refl _ _, fun g hg => .inl hg⟩

set_option maxRecDepth 20000 in
set_option maxHeartbeats 8000000 in
theorem tear_any (p : Nat) (F : Nat → Prop) (w : World) (st : Dm.Ds) (t : Nat) (h : Pk p F w st) (ht : t ≤ 9223372036854775807) (hsz : ∀ f, (st.sure f).length + Dm.bulk st.wait ≤ 140737488355000) (hw : st.wait.length ≤ 1000000) :
    Calls Tryz.prog 52 #[.pointer (some ⟨p, 0, none⟩), .int .i64 t] w fun E w' => (∃ v, E = .returned v) ∧ Mid p F w { st with sure := torn st t } w' := by
  have M0 := hide (Mid.of h)
  obtain ⟨s, wv, rs, h, rfl⟩ := h
  have hlr := h.con.len
  have c7 := h.c7
  obtain ⟨ao, cap, hv, hcap, hcm⟩ := h.con.row.row.shape
  cases hrs : rs with
  | nil =>
    subst hrs
    have e : torn st t = st.sure := by
      have : st.wait = [] := List.eq_nil_of_length_eq_zero (by simpa using hlr)
      simp [torn, this]
    rw [e]
    rw [hv] at c7
    clear h hlr hv e
    go_enter Tryz.func52, Tryz.ntmps52
    go_wp2
    refine bodyPost_ret (results_none rfl _ _ _) rfl ?_
    exact ⟨⟨_, rfl⟩, M0.out⟩
  | cons r rl =>
    have hr : rs[0]? = some r := by rw [hrs]; rfl
    have hpos : 0 < rs.length := by rw [hrs]; simp
    have hst : st.wait[0]? = some r.r := by rw [← h.con.wait, List.getElem?_map, hr]; rfl
    rw [← hrs]
    obtain ⟨g, hao, hg⟩ : ∃ b, ao = some ⟨b, 0, none⟩ ∧ wv.ownBlock = some b := by
      rcases h.con.row.2 with ⟨_, h1⟩ | ⟨g, cap', cur, h1, _⟩
      · omega
      · rw [hv] at h1
        simp only [Value.slice.injEq, true_and] at h1
        exact ⟨g, h1.1, by rw [hv, h1.1]; rfl⟩
    subst hao
    have hcell := fun j u hj => h.con.row.cells hg (0 * 4 + j) u (gcells_at stepc_len rs 0 r hr j u hj)
    have e0 : w.cell? ⟨g, 0, none⟩ = some (.int .i64 (kof r)) := by have := hcell 0 _ rfl; rwa [add_at] at this
    have e1 : w.cell? ⟨g, 1, none⟩ = some (.int .i64 r.file) := by have := hcell 1 _ rfl; rwa [add_at] at this
    have e2 : w.cell? ⟨g, 2, none⟩ = some r.v := by have := hcell 2 _ rfl; rwa [add_at] at this
    have e3 : w.cell? ⟨g, 3, none⟩ = some (.int .i64 r.to) := by have := hcell 3 _ rfl; rwa [add_at] at this
    have hL : ((rs.length : Int) == 0) = false := beq_eq_false_iff_ne.2 (by omega)
    have hpos' : (0 : Int) < rs.length := by omega
    rw [hv] at c7
    cases hc : r.cut
    · have hk : kof r = 0 := by simp [kof, hc]
      rw [hk] at e0
      have hfit := Dm.valid_at h.ok hst
      have hf : r.file < 4 := hfit.1
      have hbn : 1 ≤ r.bytes.length := (hfit.2.2 hc).1
      have hbn2 : r.bytes.length ≤ 64 := (hfit.2.2 hc).2
      have hsur : Dm.dof st.sure (st.wait.take 0) = st.sure := by simp [Dm.dof]
      obtain ⟨q, hq⟩ : ∃ q, q = min t (r.bytes.length - 1) := ⟨_, rfl⟩
      have hql : q ≤ r.bytes.length := by omega
      have isr := (h.con.raw r (List.mem_of_getElem? hr)).1
      obtain ⟨b, off, cr, hrv, hcr, hcrm, hbw, _⟩ := isr.full (by omega)
      obtain ⟨V, hV, hV2, szV, belV, bV, x0, x1, x2, x3⟩ := new_four w 70 (.int .i64 0) (.int .i64 0) (.slice none 0 0) (.int .i64 0) (.int .i64 0) (.int .i64 r.file) (.slice (some ⟨b, off, none⟩) r.bytes.length cr) (.int .i64 r.to)
      have isq : Is .u8 w (.slice (some ⟨b, off, none⟩) q cr) (r.bytes.take q) := by
        rw [hrv] at isr
        exact isr.cut q hql
      obtain ⟨V2, hV3⟩ : ∃ V2, V.setCell ⟨w.heap.size, 2, none⟩ (.slice (some ⟨b, off, none⟩) q cr) = V2 := ⟨_, rfl⟩
      have bV2 : V2.heap[w.heap.size]? = some (.cells #[.int .i64 0, .int .i64 r.file, .slice (some ⟨b, off, none⟩) q cr, .int .i64 r.to] 70 (0, 0)) := by rw [← hV3, set_cells bV]; rfl
      have belV2 : Below w.heap.size w V2 := by rw [← hV3]; exact belV.grown (grown_setCell V ⟨w.heap.size, 2, none⟩ _) (by omega) fun k hk => by simp at hk; omega
      have szV2 : V2.heap.size = w.heap.size + 1 := by rw [← hV3]; simp [World.setCell, szV]
      have z0 : V2.cell? ⟨w.heap.size, 0, none⟩ = some (.int .i64 0) := blk_cell bV2 0 rfl
      have z1 : V2.cell? ⟨w.heap.size, 1, none⟩ = some (.int .i64 r.file) := blk_cell bV2 1 rfl
      have z2 : V2.cell? ⟨w.heap.size, 2, none⟩ = some (.slice (some ⟨b, off, none⟩) q cr) := blk_cell bV2 2 rfl
      have z3 : V2.cell? ⟨w.heap.size, 3, none⟩ = some (.int .i64 r.to) := blk_cell bV2 3 rfl
      have fz2 : V.frozen? ⟨w.heap.size, 2, none⟩ = false := blk_froz bV 2
      have cfv : V2.cell? ⟨p, 3 + r.file, none⟩ = some (s r.file) := (belV2.cell (p := ⟨p, 3 + r.file, none⟩) (blk_lt h.blk)).trans (h.cf r.file hf)
      obtain ⟨af, nf, cpf, hsf⟩ := (h.con.file r.file hf).is.form
      have hne : ∀ b, (s r.file).ownBlock = some b → b < w.heap.size := fun b hb => ((h.con.file r.file hf).block b hb).2
      have hszf := hsz r.file
      have et : torn st t = Dm.upd st.sure r.file (st.sure r.file ++ r.bytes.take q) := by
        simp [torn, hst, Rv.r, hc, Dm.one, Dm.wth, hq]
      have BI : Hid (Calls Tryz.prog 71 #[.agg #[.int .i64 0, .int .i64 r.file, .slice (some ⟨b, off, none⟩) q cr, .int .i64 r.to], s r.file] V2.drew fun E w2 => ∃ v2, E = .returned v2 ∧ (Mid p (FB p s wv rs) w { st with sure := torn st t } (w2.setCell ⟨p, 3 + r.file, none⟩ v2) ∧ (w2.cell? ⟨w.heap.size, 0, none⟩ = some (.int .i64 0) ∧ w2.cell? ⟨w.heap.size, 1, none⟩ = some (.int .i64 r.file) ∧ w2.cell? ⟨w.heap.size, 2, none⟩ = some (.slice (some ⟨b, off, none⟩) q cr) ∧ w2.cell? ⟨w.heap.size, 3, none⟩ = some (.int .i64 r.to)) ∧ w2.cell? ⟨p, 3 + r.file, none⟩ = some (s r.file) ∧ w2.frozen? ⟨p, 3 + r.file, none⟩ = false ∧ ∃ a n c, v2 = .slice a n c)) := hide (by
        refine (behind_any 0 (s r.file) _ ⟨r.file, false, r.to, .slice (some ⟨b, off, none⟩) q cr, r.bytes.take q⟩ V2.drew (((h.con.file r.file hf).below belV2).drewN 1) (Nat.zero_le _) ((isq.below belV2).drewN 1) (fun hc => by simp at hc) (by simp only [List.length_take]; omega)).mono ?_
        rintro E w2 ⟨v2, rfl, own2, out2, at2⟩
        have out2' : Out (fun g => (s r.file).ownBlock = some g) w w2 := (Out.of_below (F := fun g => (s r.file).ownBlock = some g) (belV2.trans (below_drewN (Below.refl _ _) 1))).trans out2 fun g hg => .inl hg
        have hb2 : w2.heap[w.heap.size]? = some (.cells #[.int .i64 0, .int .i64 r.file, .slice (some ⟨b, off, none⟩) q cr, .int .i64 r.to] 70 (0, 0)) := (out2.block w.heap.size (show w.heap.size < V2.heap.size by omega) fun h => by have := hne _ h; omega).trans bV2
        have hnp : ∀ b, (s r.file).ownBlock = some b → b ≠ p := (h.con.ne h.blk (by decide) (by decide)).1 r.file hf
        have hp2 : w2.heap[p]? = some (.cells (pcells s wv st.on (pfuse st) st.count) 47 (0, 0)) := (out2'.block p (blk_lt h.blk) fun h => hnp p h rfl).trans h.blk
        have hat : ∀ b, v2.ownBlock = some b → (s r.file).ownBlock = some b ∨ w.heap.size ≤ b := fun b hb => by
          rcases at2 b hb with h1 | h1
          · exact .inl h1
          · exact .inr (by have h2 : V2.drew.heap.size = V2.heap.size := rfl; omega)
        have hC2 := h.con.files hf own2 out2' hat
        have e5 : Dm.upd st.sure r.file (Dm.wth (st.sure r.file) (Rv.r ⟨r.file, false, r.to, .slice (some ⟨b, off, none⟩) q cr, r.bytes.take q⟩)) = torn st t := by rw [et]; rfl
        rw [e5] at hC2
        refine ⟨v2, rfl, ⟨sup s r.file v2, wv, rs, by rw [set_cells hp2, pcells_sup _ _ _ _ _ _ hf]; rfl, hC2.but hp2 (by decide) (by decide) fun b hb _ => Below.heap_setCell _ _ _ _ hb, ?_, FB.files hf hat⟩, ⟨blk_cell hb2 0 rfl, blk_cell hb2 1 rfl, blk_cell hb2 2 rfl, blk_cell hb2 3 rfl⟩, pc_f (cs := #[]) hp2 r.file hf, blk_froz hp2 _, own2.is.form⟩
        have h1 : Out (FB p s wv rs) w w2 := out2'.mono fun g hg => .inl (.inr (.inl ⟨_, hf, hg⟩))
        exact h1.trans (Out.of_grown (F := fun g => g = p) (grown_setCell w2 ⟨p, 3 + r.file, none⟩ v2) fun g hg => by simp at hg; exact hg.symm) fun g hg => .inl (.inl hg))
      have hf0 : (0 : Int) ≤ (r.file : Int) := by omega
      have hf4 : (r.file : Int) < 4 := by omega
      have hcr0 : ¬ cr = 0 := by omega
      have hwr : IntKind.i64.wrap ((r.bytes.length : Int) - 1) = (r.bytes.length : Int) - 1 := wrap64s _ (by omega) (by omega)
      have hmin : (if (r.bytes.length : Int) - 1 < (t : Int) then (r.bytes.length : Int) - 1 else (t : Int)) = (q : Int) := by split <;> omega
      have hq0 : (0 : Int) ≤ (q : Int) := by omega
      have hqc : (q : Int) ≤ cr := by omega
      rw [hsf] at cfv BI
      rw [hrv] at e2
      clear hcell hr hst hfit hszf isr isq hne h hsf hg et bV bV2 hrv hk hsur hq hlr hv hrs
      go_enter Tryz.func52, Tryz.ntmps52
      go_wp2_with fail
      go_region_law (refine call_at rfl 71 #[.tmp 40, .tmp 47] #[70, 22] rfl Tryz.enters71 #[.agg #[.int .i64 0, .int .i64 r.file, .slice (some ⟨b, off, none⟩) q cr, .int .i64 r.to], .slice af nf cpf] (by first | rfl | (simp [Act.eval]; done)) BI.out ?_; rintro v2 w2 ⟨J, ⟨y0, y1, y2, y3⟩, cp2, fp2, a2, n2, c2, rfl⟩; have J := hide J)
      all_goals
        go_wp2
        go_end0
        exact ⟨⟨_, rfl⟩, J.out⟩
    · have hk : kof r = 1 := by simp [kof, hc]
      rw [hk] at e0
      have e : torn st t = st.sure := by simp [torn, hst, Rv.r, hc]
      rw [e]
      clear h hlr hv e hk hcell hr hst hrs
      go_enter Tryz.func52, Tryz.ntmps52
      go_wp2
      refine bodyPost_ret (results_none rfl _ _ _) rfl ?_
      exact ⟨⟨_, rfl⟩, M0.out⟩

end Go.Proofs.YtkpnkknolobioaaGreat

/- The program's disk: a raw step done ('do'). -/
namespace Go.Proofs.YtkpnkknolobioaaGreat
open Go.RowKit Go.Shelf
set_option linter.unusedVariables false

theorem ok_push {st : Dm.Ds} {r : Dm.Rw} (h : Dm.Ok st) (hf : Dm.fits (Dm.dof st.sure st.wait) r) : Dm.Ok (Dm.push st r) := by
  unfold Dm.Ok Dm.push at *
  rw [Dm.valid_app]
  exact ⟨h, hf, trivial⟩

/-- A raw step becomes pending. -/
theorem push_tail {p : Nat} {W : World} {st : Dm.Ds} {s : Nat → Value} {wv : Value} {rs : List Rv} (h : PkV p W st s wv rs) (r : Rv) (hraw : Byt (fun _ => True) W r.v r.bytes) (hra : ∀ f, f < 4 → ∀ b, r.v.ownBlock = some b → (s f).ownBlock ≠ some b) (hfit : Dm.fits (Dm.dof st.sure st.wait) r.r) (hlen : rs.length ≤ 1000000) :
    ∃ V, W.drew.alloc (.cells #[.int .i64 (kof r), .int .i64 r.file, r.v, .int .i64 r.to] 70) = V ∧ V.cell? ⟨p, 7, none⟩ = some wv ∧ Hid (∀ ty, ∃ v' w', (Builtin.append_ #[45, 45] ty #[wv, .slice (some ⟨W.heap.size, 0, none⟩) 1 1]).run Tryz.prog V = .ok v' w' ∧
      ((∃ F', Pk p F' (w'.setCell ⟨p, 7, none⟩ v') (Dm.push st r.r) ∧ Out (FB p s wv rs) W (w'.setCell ⟨p, 7, none⟩ v') ∧ ∀ g, F' g → FB p s wv rs g ∨ W.heap.size ≤ g ∨ r.v.ownBlock = some g) ∧ w'.cell? ⟨p, 7, none⟩ = some wv ∧ w'.frozen? ⟨p, 7, none⟩ = false ∧ ∃ a n c, v' = .slice a n c)) := by
  obtain ⟨a0, n0, k0, hrv⟩ := hraw.1.form
  obtain ⟨V, hV, szV, belV, rowV⟩ := rows_step stepc 4 stepc_len 70 W.drew #[.int .i64 (kof r), .int .i64 r.file, r.v, .int .i64 r.to] 1 [r] rfl rfl (by decide)
  have belV' : Below W.heap.size W V := (below_drewN (Below.refl _ _) 1).trans belV
  have hV1 := h.below belV'
  refine ⟨V, hV, hV1.c7, hide fun ty => ?_⟩
  obtain ⟨v', w', hr, own', gr', at'⟩ := run_append_rows_at (P := Tryz.prog) 45 ty stepc 4 48 stepc_len (by decide) (by decide) (.agg #[.int .i64 0, .int .i64 0, .slice none 0 0, .int .i64 0]) rfl 70 0 Tryz.underlying45 Tryz.info70 wv rs hV1.con.row _ [r] rowV.row (stepc_one [r] fun q hq => by simp at hq; subst hq; exact hraw.1.form) (by simp; omega) (Nat.zero_le _)
  have out' : Out (fun g => wv.ownBlock = some g) V w' := Out.of_grown gr' fun g hg => hg
  have hC' : Con w' st.sure (st.wait ++ [r.r]) s v' (rs ++ [r]) := hV1.con.rows own' out' (fun q hq => by
    rcases List.mem_append.1 hq with hq | hq
    · exact ⟨hV1.con.raw q hq, hV1.con.rawa q hq⟩
    · simp at hq
      subst hq
      exact ⟨hraw.agree fun b hb => by obtain ⟨_, cs, fr, hc⟩ := hraw.2 b hb; exact belV'.block b (blk_lt hc), hra⟩) (by rw [List.map_append, h.con.wait]; rfl)
  have hp' : w'.heap[p]? = some (.cells (pcells s wv st.on (pfuse st) st.count) 47 (0, 0)) := (out'.block p (blk_lt hV1.blk) fun h1 => (hV1.con.ne hV1.blk (by decide) (by decide)).2.1 p h1 rfl).trans hV1.blk
  obtain ⟨R1, R2⟩ := PkV.put (st' := Dm.push st r.r) (s' := s) (wv' := v') (rs' := rs ++ [r]) hp' 7 v' rfl hC' (ok_push h.ok hfit)
  refine ⟨v', w', hr, ⟨_, ⟨s, v', rs ++ [r], R1, rfl⟩, ?_, ?_⟩, blk_cell hp' 7 rfl, blk_froz hp' 7, ?_⟩
  · have h1 : Out (FB p s wv rs) W w' := (Out.of_below belV').trans out' fun g hg => .inl (.inr (.inr (.inl hg)))
    exact h1.trans R2 fun g hg => .inl (.inl hg)
  · rintro g (h1 | h1 | h1 | ⟨q, hq, h1⟩)
    · exact .inl (.inl h1)
    · exact .inl (.inr (.inl h1))
    · rcases at' with h2 | h2
      · exact .inl (.inr (.inr (.inl (by rw [← h2]; exact h1))))
      · rw [h1] at h2
        simp at h2
        exact .inr (.inl (by have := belV'.size; omega))
    · rcases List.mem_append.1 hq with hq | hq
      · exact .inl (.inr (.inr (.inr ⟨q, hq, h1⟩)))
      · simp at hq
        subst hq
        exact .inr (.inr h1)
  · obtain ⟨a, c, hv, _⟩ := own'.row.shape
    exact ⟨a, _, c, hv⟩

/-- A raw step is counted. -/
theorem count_tail {p : Nat} {w : World} {st : Dm.Ds} {s : Nat → Value} {wv : Value} {rs : List Rv} (h : PkV p w st s wv rs) (hh : st.has = false) :
    ∃ V, w.setCell ⟨p, 8, none⟩ (.int .i64 ((st.count : Int) + 1)) = V ∧ PkV p V (Dm.burn st) s wv rs ∧ Out (FB p s wv rs) w V ∧ V.heap.size = w.heap.size ∧ ∀ g, g ≠ p → V.heap[g]? = w.heap[g]? := by
  have hb : Dm.burn st = { st with count := st.count + 1 } := by simp [Dm.burn, hh]
  obtain ⟨R1, R2⟩ := h.set (st' := Dm.burn st) 8 (.int .i64 ((st.count : Int) + 1)) (by rw [hb]; simp [pcells, pfuse, hh]) (by rw [hb]) (by rw [hb])
  exact ⟨_, rfl, R1, R2, by simp [World.setCell], fun g hg => Below.heap_setCell _ _ _ _ hg⟩

theorem burn_tail {p : Nat} {w : World} {st : Dm.Ds} {s : Nat → Value} {wv : Value} {rs : List Rv} (h : PkV p w st s wv rs) (hh : st.has = true) (hl : 1 ≤ st.left) :
    ∃ U V, w.setCell ⟨p, 2, none⟩ (.int .i64 ((st.left : Int) - 1)) = U ∧ U.setCell ⟨p, 8, none⟩ (.int .i64 ((st.count : Int) + 1)) = V ∧ U.cell? ⟨p, 8, none⟩ = some (.int .i64 st.count) ∧ U.frozen? ⟨p, 8, none⟩ = false ∧ PkV p V (Dm.burn st) s wv rs ∧ Out (FB p s wv rs) w V ∧ V.heap.size = w.heap.size ∧ ∀ g, g ≠ p → V.heap[g]? = w.heap[g]? := by
  have hb : Dm.burn st = { st with left := st.left - 1, count := st.count + 1 } := by simp [Dm.burn, hh]
  have hsub : ((st.left - 1 : Nat) : Int) = (st.left : Int) - 1 := by omega
  obtain ⟨R1, R2⟩ := h.set (st' := { st with left := st.left - 1 }) 2 (.int .i64 ((st.left : Int) - 1)) (by simp [pcells, pfuse, hh, hsub]) rfl rfl
  obtain ⟨R3, R4⟩ := R1.set (st' := Dm.burn st) 8 (.int .i64 ((st.count : Int) + 1)) (by rw [hb]; simp [pcells, pfuse, hh]) (by rw [hb]) (by rw [hb])
  exact ⟨_, _, rfl, rfl, R1.c8, R1.froz 8, R3, R2.trans R4 fun g hg => .inl hg, by simp [World.setCell], fun g hg => (Below.heap_setCell _ _ _ _ hg).trans (Below.heap_setCell _ _ _ _ hg)⟩

/-- Behind a raw step that became pending. -/
def PDo (p : Nat) (F : Nat → Prop) (w : World) (st' : Dm.Ds) (v : Value) (w' : World) : Prop := ∃ F', Pk p F' w' st' ∧ Out F w w' ∧ ∀ g, F' g → F g ∨ w.heap.size ≤ g ∨ v.ownBlock = some g

theorem PDo.of_step {p : Nat} {F : Nat → Prop} {w w' : World} {st' : Dm.Ds} {v : Value} (h : PStep p F w w' st') : PDo p F w st' v w' := by
  obtain ⟨F', h1, h2, h3⟩ := h
  exact ⟨F', h1, h2, fun g hg => (h3 g hg).elim .inl fun h => .inr (.inl h)⟩

set_option maxRecDepth 20000 in
set_option maxHeartbeats 8000000 in
theorem dopush_any (p : Nat) (F : Nat → Prop) (w : World) (st : Dm.Ds) (r : Rv) (h : Pk p F w st) (hraw : Byt (fun _ => True) w r.v r.bytes) (hra : ∀ b, r.v.ownBlock = some b → ¬ F b) (hfit : Dm.fits (Dm.dof st.sure st.wait) r.r) (hlen : st.wait.length ≤ 1000000) (hl : st.left ≤ 9223372036854775807) (hc : st.count < 9223372036854775807) :
    Calls Tryz.prog 36 #[.pointer (some ⟨p, 0, none⟩), .agg #[.int .i64 (kof r), .int .i64 r.file, r.v, .int .i64 r.to]] w fun E w' => E = .returned (.int .i64 (if Dm.off st then 6 else 0)) ∧ PDo p F w (if Dm.off st then Dm.dark st else Dm.push (Dm.burn st) r.r) r.v w' := by
  obtain ⟨s, wv, rs, h, rfl⟩ := h
  obtain ⟨a0, n0, k0, hrv⟩ := hraw.1.form
  obtain ⟨w1, hw1, sz1, bel1, hB⟩ := blk_step w #[.int .i64 (kof r), .int .i64 r.file, r.v, .int .i64 r.to] 70
  have h1 := h.below bel1
  have c1 := h1.c1
  have c2 := h1.c2
  have c8 := h1.c8
  have f1 := h1.froz 1
  have f2 := h1.froz 2
  have f8 := h1.froz 8
  have hraw1 : Byt (fun _ => True) w1 r.v r.bytes := hraw.agree fun b hb => by obtain ⟨_, cs, fr, hc⟩ := hraw.2 b hb; exact bel1.block b (blk_lt hc)
  have hra1 : ∀ f, f < 4 → ∀ b, r.v.ownBlock = some b → (s f).ownBlock ≠ some b := fun f hf b hb h2 => hra b hb (.inr (.inl ⟨f, hf, h2⟩))
  have hnp : ∀ b, r.v.ownBlock = some b → b ≠ p := fun b hb h2 => hra b hb (.inl h2)
  have hpw : p < w.heap.size := blk_lt h.blk
  have hlr := h.con.len
  have hkof : kof r = 0 ∨ kof r = 1 := by unfold kof; split <;> simp
  by_cases hoff : Dm.off st = true
  · rw [hoff, if_pos rfl, if_pos rfl]
    have hz : pfuse st = 0 := by
      simp [Dm.off] at hoff
      simp [pfuse, hoff.1, hoff.2]
    obtain ⟨R1, R2⟩ := h1.set (st' := Dm.dark st) 1 (.bool false) rfl rfl rfl
    have HR : Hid (PDo p (FB p s wv rs) w (Dm.dark st) r.v (w1.setCell ⟨p, 1, none⟩ (.bool false))) := hide (PDo.of_step (PStep.pre bel1 (PStep.of_set R1 R2)))
    rw [hz] at c2
    rw [hrv] at hw1 HR ⊢
    clear h h1 R1 R2 hB hraw hraw1 hra hra1 hnp hfit hlr hz hoff hrv
    go_enter Tryz.func36, Tryz.ntmps36
    go_wp2
    go_ret
    exact ⟨rfl, HR.out⟩
  · have hoff' : Dm.off st = false := by simpa using hoff
    rw [hoff', if_neg (by simp), if_neg (by simp)]
    cases hh : st.has
    · have hz : pfuse st = -1 := by simp [pfuse, hh]
      obtain ⟨W, hW, hPW, hOW, szW, keW⟩ := count_tail h1 hh
      have hBW := (keW w.heap.size (by omega)).trans hB
      have x0 : W.cell? ⟨w.heap.size, 0, none⟩ = some (.int .i64 (kof r)) := blk_cell hBW 0 rfl
      have x1 : W.cell? ⟨w.heap.size, 1, none⟩ = some (.int .i64 r.file) := blk_cell hBW 1 rfl
      have x2 : W.cell? ⟨w.heap.size, 2, none⟩ = some r.v := blk_cell hBW 2 rfl
      have x3 : W.cell? ⟨w.heap.size, 3, none⟩ = some (.int .i64 r.to) := blk_cell hBW 3 rfl
      have hb : (Dm.burn st).sure = st.sure ∧ (Dm.burn st).wait = st.wait := ⟨rfl, rfl⟩
      obtain ⟨V, hV, v7, X⟩ := push_tail hPW r (hraw1.agree fun b hb => keW b (hnp b hb)) hra1 (by rw [hb.1, hb.2]; exact hfit) (by omega)
      have X2 : Hid (∀ ty, ∃ v' w', (Builtin.append_ #[45, 45] ty #[wv, .slice (some ⟨W.heap.size, 0, none⟩) 1 1]).run Tryz.prog V = .ok v' w' ∧ (PDo p (FB p s wv rs) w (Dm.push (Dm.burn st) r.r) r.v (w'.setCell ⟨p, 7, none⟩ v') ∧ w'.cell? ⟨p, 7, none⟩ = some wv ∧ w'.frozen? ⟨p, 7, none⟩ = false ∧ ∃ a n c, v' = .slice a n c)) := hide fun ty => by
        obtain ⟨v', w', hr, ⟨F', g1, g2, g3⟩, h3⟩ := X.out ty
        refine ⟨v', w', hr, ⟨F', g1, ((Out.of_below bel1).trans hOW fun g hg => .inl hg).trans g2 fun g hg => .inl hg, fun g hg => ?_⟩, h3⟩
        rcases g3 g hg with h4 | h4 | h4
        · exact .inl h4
        · exact .inr (.inl (by omega))
        · exact .inr (.inr h4)
      have w7 : W.cell? ⟨p, 7, none⟩ = some wv := hPW.c7
      rw [hz] at c2
      rw [hrv] at hw1 x2 hV X2 ⊢
      have hcw : IntKind.i64.wrap ((st.count : Int) + 1) = (st.count : Int) + 1 := wrap64s _ (by omega) (by omega)
      rcases hkof with hk | hk
      · rw [hk] at hw1 x0 hV ⊢
        clear h h1 hB hraw hraw1 hra hra1 hnp hfit hlr hz hoff hoff' hrv hPW hOW keW hBW hb X hk hh
        go_enter Tryz.func36, Tryz.ntmps36
        go_wp2_with fail
        go_region_law (refine step_append_at rfl (.tmp 41) (.tmp 43) 45 rfl wv (.slice (some ⟨W.heap.size, 0, none⟩) 1 1) (by first | rfl | (simp [Act.eval]; done)) (by first | rfl | (simp [Act.eval]; done)) X2.out ?_; rintro v5 w5 ⟨J, d7, g7, a5, n5, c5, rfl⟩; have J := hide J)
        all_goals
          go_wp2
          go_ret
          exact ⟨rfl, J.out⟩
      · rw [hk] at hw1 x0 hV ⊢
        clear h h1 hB hraw hraw1 hra hra1 hnp hfit hlr hz hoff hoff' hrv hPW hOW keW hBW hb X hk hh
        go_enter Tryz.func36, Tryz.ntmps36
        go_wp2_with fail
        go_region_law (refine step_append_at rfl (.tmp 41) (.tmp 43) 45 rfl wv (.slice (some ⟨W.heap.size, 0, none⟩) 1 1) (by first | rfl | (simp [Act.eval]; done)) (by first | rfl | (simp [Act.eval]; done)) X2.out ?_; rintro v5 w5 ⟨J, d7, g7, a5, n5, c5, rfl⟩; have J := hide J)
        all_goals
          go_wp2
          go_ret
          exact ⟨rfl, J.out⟩
    · have hl1 : 1 ≤ st.left := by
        simp [Dm.off, hh] at hoff
        omega
      have hz : pfuse st = st.left := by simp [pfuse, hh]
      obtain ⟨U, W, hU, hW, u8, fu8, hPW, hOW, szW, keW⟩ := burn_tail h1 hh hl1
      have hBW := (keW w.heap.size (by omega)).trans hB
      have x0 : W.cell? ⟨w.heap.size, 0, none⟩ = some (.int .i64 (kof r)) := blk_cell hBW 0 rfl
      have x1 : W.cell? ⟨w.heap.size, 1, none⟩ = some (.int .i64 r.file) := blk_cell hBW 1 rfl
      have x2 : W.cell? ⟨w.heap.size, 2, none⟩ = some r.v := blk_cell hBW 2 rfl
      have x3 : W.cell? ⟨w.heap.size, 3, none⟩ = some (.int .i64 r.to) := blk_cell hBW 3 rfl
      have hb : (Dm.burn st).sure = st.sure ∧ (Dm.burn st).wait = st.wait := ⟨rfl, rfl⟩
      obtain ⟨V, hV, v7, X⟩ := push_tail hPW r (hraw1.agree fun b hb => keW b (hnp b hb)) hra1 (by rw [hb.1, hb.2]; exact hfit) (by omega)
      have X2 : Hid (∀ ty, ∃ v' w', (Builtin.append_ #[45, 45] ty #[wv, .slice (some ⟨W.heap.size, 0, none⟩) 1 1]).run Tryz.prog V = .ok v' w' ∧ (PDo p (FB p s wv rs) w (Dm.push (Dm.burn st) r.r) r.v (w'.setCell ⟨p, 7, none⟩ v') ∧ w'.cell? ⟨p, 7, none⟩ = some wv ∧ w'.frozen? ⟨p, 7, none⟩ = false ∧ ∃ a n c, v' = .slice a n c)) := hide fun ty => by
        obtain ⟨v', w', hr, ⟨F', g1, g2, g3⟩, h3⟩ := X.out ty
        refine ⟨v', w', hr, ⟨F', g1, ((Out.of_below bel1).trans hOW fun g hg => .inl hg).trans g2 fun g hg => .inl hg, fun g hg => ?_⟩, h3⟩
        rcases g3 g hg with h4 | h4 | h4
        · exact .inl h4
        · exact .inr (.inl (by omega))
        · exact .inr (.inr h4)
      have w7 : W.cell? ⟨p, 7, none⟩ = some wv := hPW.c7
      rw [hz] at c2
      rw [hrv] at hw1 x2 hV X2 ⊢
      have hcw : IntKind.i64.wrap ((st.count : Int) + 1) = (st.count : Int) + 1 := wrap64s _ (by omega) (by omega)
      have hlw : IntKind.i64.wrap ((st.left : Int) - 1) = (st.left : Int) - 1 := wrap64s _ (by omega) (by omega)
      have hl0 : ((st.left : Int) == 0) = false := beq_eq_false_iff_ne.2 (by omega)
      have hlm : ((st.left : Int) == -1) = false := beq_eq_false_iff_ne.2 (by omega)
      rcases hkof with hk | hk
      · rw [hk] at hw1 x0 hV ⊢
        clear h h1 hB hraw hraw1 hra hra1 hnp hfit hlr hz hoff hoff' hrv hPW hOW keW hBW hb X hk hh
        go_enter Tryz.func36, Tryz.ntmps36
        go_wp2_with fail
        go_region_law (refine step_append_at rfl (.tmp 41) (.tmp 43) 45 rfl wv (.slice (some ⟨W.heap.size, 0, none⟩) 1 1) (by first | rfl | (simp [Act.eval]; done)) (by first | rfl | (simp [Act.eval]; done)) X2.out ?_; rintro v5 w5 ⟨J, d7, g7, a5, n5, c5, rfl⟩; have J := hide J)
        all_goals
          go_wp2
          go_ret
          exact ⟨rfl, J.out⟩
      · rw [hk] at hw1 x0 hV ⊢
        clear h h1 hB hraw hraw1 hra hra1 hnp hfit hlr hz hoff hoff' hrv hPW hOW keW hBW hb X hk hh
        go_enter Tryz.func36, Tryz.ntmps36
        go_wp2_with fail
        go_region_law (refine step_append_at rfl (.tmp 41) (.tmp 43) 45 rfl wv (.slice (some ⟨W.heap.size, 0, none⟩) 1 1) (by first | rfl | (simp [Act.eval]; done)) (by first | rfl | (simp [Act.eval]; done)) X2.out ?_; rintro v5 w5 ⟨J, d7, g7, a5, n5, c5, rfl⟩; have J := hide J)
        all_goals
          go_wp2
          go_ret
          exact ⟨rfl, J.out⟩

end Go.Proofs.YtkpnkknolobioaaGreat
