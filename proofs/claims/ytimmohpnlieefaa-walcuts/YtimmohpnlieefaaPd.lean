/- The program's disk: settle. -/
import Derived.Test.YtimmohpnlieefaaPc
import Derived.Deep.RegionHeld3
import Derived.Shelf.Abstract
namespace Go.Proofs.Ytimmohpnlieefaa
open Go.RowKit Go.Shelf
set_option linter.unusedVariables false

theorem pcells_sup (s : Nat → Value) (wv : Value) (on : Bool) (fuse count : Int) (f : Nat) (hf : f < 4) (v : Value) : (pcells s wv on fuse count).setIfInBounds (3 + f) v = pcells (sup s f v) wv on fuse count := by
  rcases (show f = 0 ∨ f = 1 ∨ f = 2 ∨ f = 3 by omega) with rfl | rfl | rfl | rfl <;> simp [pcells, sup]

theorem dof_next {l : List Dm.Rw} {k : Nat} {r : Dm.Rw} (h : l[k]? = some r) (s : Nat → List Int) : Dm.dof s (l.take (k + 1)) = Dm.one (Dm.dof s (l.take k)) r := by rw [wtake_next h, Dm.dof_snoc]

theorem dof_len (s : Nat → List Int) (l : List Dm.Rw) (f : Nat) : (Dm.dof s l f).length ≤ (s f).length + Dm.bulk l := by
  rw [← Dm.hold_dof]
  exact Dm.hold_len l (s f) f

theorem OwnG.slice_h {P : Program} {α : Type} {c : α → List Value} {k e base : Nat} {w : World} {l : List α} {ao : Option Addr} {cap : Nat} (h : OwnG c k e base w (.slice ao l.length cap) l) {t : TypeId} (ht : P.underlying t = some (.slice (P.elem t))) (hs : ∀ wx, (sizeOf (P.elem t)).run P wx = .ok k wx) (n : Nat) (hn : n ≤ l.length) :
    ∀ wx, (Instr.slice t (.slice ao l.length cap) none (some (.int .i64 n)) none).run P wx = .ok (.slice ao n cap) wx := by
  intro wx
  rcases h.2 with ⟨hv, hz⟩ | ⟨g, cap', cur, hv, _, _, hc, _⟩
  · simp only [Value.slice.injEq] at hv
    obtain ⟨rfl, _, rfl⟩ := hv
    rw [run_slice_h wx t none l.length 0 ht .i64 _ (by omega) (by omega), hs]
    simp [Result.andThen, sliced]
  · simp only [Value.slice.injEq, true_and] at hv
    obtain ⟨rfl, rfl⟩ := hv
    rw [run_slice_h wx t _ l.length cap ht .i64 _ (by omega) (by omega), hs]
    simp [Result.andThen, sliced, Addr.add]

/-- Between two rounds of settle. -/
def SInv (p : Nat) (w : World) (st : Dm.Ds) (s : Nat → Value) (wv : Value) (rs : List Rv) (k : Nat) (wr : World) : Prop :=
  ∃ s', wr.heap[p]? = some (.cells (pcells s' wv st.on (pfuse st) st.count) 59 (0, 0)) ∧ Con wr (Dm.dof st.sure (st.wait.take k)) st.wait s' wv rs ∧ Out (FB p s wv rs) w wr ∧ ∀ g, FB p s' wv rs g → FB p s wv rs g ∨ w.heap.size ≤ g

theorem SInv.next {p : Nat} {w : World} {st : Dm.Ds} {s s' : Nat → Value} {wv : Value} {rs : List Rv} {k : Nat} {wr w2 : World} {r : Rv} {v : Value}
    (hB : wr.heap[p]? = some (.cells (pcells s' wv st.on (pfuse st) st.count) 59 (0, 0))) (hC : Con wr (Dm.dof st.sure (st.wait.take k)) st.wait s' wv rs) (hO : Out (FB p s wv rs) w wr) (hF : ∀ g, FB p s' wv rs g → FB p s wv rs g ∨ w.heap.size ≤ g)
    (hk : st.wait[k]? = some r.r) (hf : r.file < 4) (ho : Out (fun g => (s' r.file).ownBlock = some g) wr w2) (hown : Own .u8 5 0 w2 v (Dm.wth (Dm.dof st.sure (st.wait.take k) r.file) r.r)) (hat : ∀ b, v.ownBlock = some b → (s' r.file).ownBlock = some b ∨ wr.heap.size ≤ b) :
    SInv p w st s wv rs (k + 1) (w2.setCell ⟨p, 3 + r.file, none⟩ v) := by
  have hB2 : w2.heap[p]? = some (.cells (pcells s' wv st.on (pfuse st) st.count) 59 (0, 0)) := (ho.block p (blk_lt hB) fun h => (hC.ne hB (by decide) (by decide)).1 r.file hf p h rfl).trans hB
  have hC2 := hC.files hf hown ho hat
  refine ⟨sup s' r.file v, by rw [set_cells hB2, pcells_sup _ _ _ _ _ _ hf], ?_, ?_, fun g hg => ?_⟩
  · have e : Dm.dof st.sure (st.wait.take (k + 1)) = Dm.upd (Dm.dof st.sure (st.wait.take k)) r.file (Dm.wth (Dm.dof st.sure (st.wait.take k) r.file) r.r) := by rw [dof_next hk]; rfl
    rw [e]
    exact hC2.but hB2 (by decide) (by decide) fun b hb _ => Below.heap_setCell _ _ _ _ hb
  · have h1 : Out (FB p s wv rs) w w2 := hO.trans ho fun g hg => hF g (.inr (.inl ⟨_, hf, hg⟩))
    exact h1.trans (Out.of_grown (F := fun g => g = p) (grown_setCell w2 ⟨p, 3 + r.file, none⟩ v) fun g hg => by simp at hg; exact hg.symm) fun g hg => .inl (.inl hg)
  · rcases FB.files hf hat g hg with h1 | h1
    · exact hF g h1
    · exact .inr (Nat.le_trans hO.size h1)

theorem Try.enters91 : ∀ args w, (callFunc 91 args).run Try.prog w = .ok (.enter 91 args) w := enters_of Try.func91 (by kernel_rfl) rfl

set_option maxRecDepth 20000 in
set_option maxHeartbeats 8000000 in
theorem settle_any (p : Nat) (F : Nat → Prop) (w : World) (st : Dm.Ds) (n : Nat) (h : Pk p F w st) (hn : n ≤ st.wait.length) (hsz : ∀ f, (st.sure f).length + Dm.bulk st.wait ≤ 140737488355000) (hw : st.wait.length ≤ 1000000) :
    Calls Try.prog 68 #[.pointer (some ⟨p, 0, none⟩), .int .i64 n] w fun E w' => (∃ v, E = .returned v) ∧ PStep p F w w' { st with sure := Dm.dof st.sure (st.wait.take n), wait := st.wait.drop n } := by
  obtain ⟨s, wv, rs, h, rfl⟩ := h
  have hlr := h.con.len
  have c7 := h.c7
  obtain ⟨ao, cap, hv, hcap, hcm⟩ := h.con.row.row.shape
  have hsl : ∀ wx, (Instr.slice 57 wv none (some (.int .i64 n)) none).run Try.prog wx = .ok (.slice ao n cap) wx := by
    have := h.con.row
    rw [hv] at this ⊢
    exact this.slice_h Try.elemD Try.sizeD n (by omega)
  have hao : 0 < rs.length → ∃ b, ao = some ⟨b, 0, none⟩ ∧ wv.ownBlock = some b := by
    intro h0
    rcases h.con.row.2 with ⟨_, h1⟩ | ⟨g, cap', cur, h1, _⟩
    · omega
    · rw [hv] at h1
      simp only [Value.slice.injEq, true_and] at h1
      exact ⟨g, h1.1, by rw [hv, h1.1]; rfl⟩
  have H := hide h
  have HAO := hide hao
  have HLR := hide hlr
  have hnL : n ≤ rs.length := by omega
  have I0 : Hid (SInv p w st s wv rs 0 w) := hide ⟨s, h.blk, by simpa [Dm.dof] using h.con, Out.refl _ _, fun g hg => .inl hg⟩
  clear h hao hlr hv
  go_enter Try.func68, Try.ntmps68
  go_wp2
  go_loopw [13] (fun iv wr => ∃ k : Nat, k ≤ n ∧ iv = .int .i64 k ∧ Hid (SInv p w st s wv rs k wr)) (fun iv _ => n - (intOf iv).toNat)
  case atStart => exact ⟨0, by omega, rfl, I0⟩
  case round =>
    obtain ⟨k, hk, rfl, I⟩ := hrel
    obtain ⟨s', hB, hC, hO, hF⟩ := I.out
    have HO := hide hO
    have HF := hide hF
    have HBp := hide hB
    by_cases hlt : k < n
    · obtain ⟨g, rfl, hg⟩ := HAO.out (by omega)
      obtain ⟨r, hr⟩ : ∃ r, rs[k]? = some r := ⟨rs[k], by rw [List.getElem?_eq_getElem]⟩
      have hcell := fun j u hj => hC.row.cells hg (k * 4 + j) u (gcells_at stepc_len rs k r hr j u hj)
      have e0 : wr.cell? ⟨g, k * 4, none⟩ = some (.int .i64 (kof r)) := by have := hcell 0 _ rfl; rwa [add_at, Nat.zero_add] at this
      have e1 : wr.cell? ⟨g, k * 4 + 1, none⟩ = some (.int .i64 r.file) := by have := hcell 1 _ rfl; rwa [add_at, Nat.zero_add] at this
      have e2 : wr.cell? ⟨g, k * 4 + 2, none⟩ = some r.v := by have := hcell 2 _ rfl; rwa [add_at, Nat.zero_add] at this
      have e3 : wr.cell? ⟨g, k * 4 + 3, none⟩ = some (.int .i64 r.to) := by have := hcell 3 _ rfl; rwa [add_at, Nat.zero_add] at this
      obtain ⟨V, hV, hV2, szV, belV, bV, x0, x1, x2, x3⟩ := new_four wr 111 (.int .i64 0) (.int .i64 0) (.slice none 0 0) (.int .i64 0) (.int .i64 (kof r)) (.int .i64 r.file) r.v (.int .i64 r.to)
      have hst : st.wait[k]? = some r.r := by rw [← H.out.con.wait, List.getElem?_map, hr]; rfl
      have hfit := Dm.valid_at H.out.ok hst
      have hf : r.file < 4 := hfit.1
      have hbl := bulk_at hst
      have hdl := dof_len st.sure (st.wait.take k) r.file
      have hszf := hsz r.file
      obtain ⟨ar, cr, hrv, _, _⟩ := (hC.raw r (List.mem_of_getElem? hr)).1.shape
      have ir := ((hC.raw r (List.mem_of_getElem? hr)).1).below belV
      have cfv : V.cell? ⟨p, 3 + r.file, none⟩ = some (s' r.file) := (belV.cell (p := ⟨p, 3 + r.file, none⟩) (blk_lt hB)).trans (pc_f (cs := #[]) hB r.file hf)
      obtain ⟨af, nf, cpf, hsf⟩ := (hC.file r.file hf).is.form
      have hne : ∀ b, (s' r.file).ownBlock = some b → b < wr.heap.size := fun b hb => ((hC.file r.file hf).block b hb).2
      have BI : Hid (Calls Try.prog 91 #[.agg #[.int .i64 (kof r), .int .i64 r.file, r.v, .int .i64 r.to], s' r.file] V.drew fun E w2 => ∃ v2, E = .returned v2 ∧ (SInv p w st s wv rs (k + 1) (w2.setCell ⟨p, 3 + r.file, none⟩ v2) ∧ (w2.cell? ⟨wr.heap.size, 0, none⟩ = some (.int .i64 (kof r)) ∧ w2.cell? ⟨wr.heap.size, 1, none⟩ = some (.int .i64 r.file) ∧ w2.cell? ⟨wr.heap.size, 2, none⟩ = some r.v ∧ w2.cell? ⟨wr.heap.size, 3, none⟩ = some (.int .i64 r.to)) ∧ w2.cell? ⟨p, 3 + r.file, none⟩ = some (s' r.file) ∧ w2.frozen? ⟨p, 3 + r.file, none⟩ = false ∧ ∃ a n c, v2 = .slice a n c)) := hide (by
        refine (behind_any 0 (s' r.file) _ r V.drew (((hC.file r.file hf).below belV).drewN 1) (Nat.zero_le _) (ir.drewN 1) (fun hc => hfit.2.1 hc) (by have : r.r.bytes = r.bytes := rfl; rw [this] at hbl; omega)).mono ?_
        rintro E w2 ⟨v2, rfl, own2, out2, at2⟩
        have out2' : Out (fun g => (s' r.file).ownBlock = some g) wr w2 := (Out.of_below (F := fun g => (s' r.file).ownBlock = some g) ((belV).trans (below_drewN (Below.refl _ _) 1))).trans out2 fun g hg => .inl hg
        have hb2 : w2.heap[wr.heap.size]? = some (.cells #[.int .i64 (kof r), .int .i64 r.file, r.v, .int .i64 r.to] 111 (0, 0)) := (out2.block wr.heap.size (show wr.heap.size < V.heap.size by omega) fun h => by have := hne _ h; omega).trans bV
        have hp2 : w2.heap[p]? = some (.cells (pcells s' wv st.on (pfuse st) st.count) 59 (0, 0)) := (out2'.block p (blk_lt hB) fun h => (hC.ne hB (by decide) (by decide)).1 r.file hf p h rfl).trans hB
        refine ⟨v2, rfl, SInv.next hB hC HO.out HF.out hst hf out2' own2 (fun b hb => ?_), ⟨blk_cell hb2 0 rfl, blk_cell hb2 1 rfl, blk_cell hb2 2 rfl, blk_cell hb2 3 rfl⟩, pc_f (cs := #[]) hp2 r.file hf, blk_froz hp2 _, own2.is.form⟩
        rcases at2 b hb with h1 | h1
        · exact .inl h1
        · exact .inr (by have h2 : V.drew.heap.size = V.heap.size := rfl; omega))
      have hlt' : (k : Int) < n := by omega
      have hk0 : (0 : Int) ≤ (k : Int) := by omega
      have hf0 : (0 : Int) ≤ (r.file : Int) := by omega
      have hf4 : (r.file : Int) < 4 := by omega
      have hp : p < wr.heap.size := blk_lt hB
      rw [hrv] at e2 hV hV2 x2 BI
      rw [hsf] at cfv BI
      clear hcell hr hst hfit hbl hdl hszf ir hne hC hO hF hB bV I hrv hsf hg
      go_wp2_with fail
      go_region_law (refine call_at rfl 91 #[.tmp 20, .tmp 27] #[111, 37] rfl Try.enters91 #[.agg #[.int .i64 (kof r), .int .i64 r.file, .slice ar r.bytes.length cr, .int .i64 r.to], .slice af nf cpf] (by first | rfl | (simp [Act.eval]; done)) BI.out ?_; rintro v2 w2 ⟨J, ⟨y0, y1, y2, y3⟩, cp2, fp2, a2, n2, c2, rfl⟩; have J := hide J)
      all_goals
        go_wp2
        go_roundw
        case rel => exact ⟨k + 1, by omega, by go_num, J⟩
        case measure => simp [intOf]; omega
    · obtain rfl : k = n := by omega
      have c7r : wr.cell? ⟨p, 7, none⟩ = some wv := blk_cell hB 7 rfl
      have hlt' : ¬ (k : Int) < k := by omega
      have DI : Hid (Calls Try.prog 92 #[wv, .int .i64 0, .int .i64 k] wr fun E w4 => ∃ v4, E = .returned v4 ∧ (PStep p (FB p s wv rs) w (w4.setCell ⟨p, 7, none⟩ v4) { st with sure := Dm.dof st.sure (st.wait.take k), wait := st.wait.drop k } ∧ w4.cell? ⟨p, 7, none⟩ = some wv ∧ w4.frozen? ⟨p, 7, none⟩ = false ∧ ∃ a n c, v4 = .slice a n c)) := hide (by
        refine (del_any wr wv rs k hC.row (fun r hr => (hC.raw r hr).1.form) hnL (by have := HLR.out; omega)).mono ?_
        rintro E w4 ⟨v4, rfl, row4, out4, ob4⟩
        have hC4 : Con w4 (Dm.dof st.sure (st.wait.take k)) (st.wait.drop k) s' v4 (rs.drop k) := hC.rows row4 out4 (fun r hr => ⟨hC.raw r (List.mem_of_mem_drop hr), hC.rawa r (List.mem_of_mem_drop hr)⟩) (by rw [← hC.wait, List.map_drop])
        have hp4 : w4.heap[p]? = some (.cells (pcells s' wv st.on (pfuse st) st.count) 59 (0, 0)) := (out4.block p (blk_lt hB) fun h => (hC.ne hB (by decide) (by decide)).2.1 p h rfl).trans hB
        have hok : Dm.valid (Dm.dof st.sure (st.wait.take k)) (st.wait.drop k) := by
          have := H.out.ok
          unfold Dm.Ok at this
          rw [← List.take_append_drop k st.wait, Dm.valid_app] at this
          exact this.2
        obtain ⟨R1, R2⟩ := PkV.put (st' := { st with sure := Dm.dof st.sure (st.wait.take k), wait := st.wait.drop k }) (s' := s') (wv' := v4) (rs' := rs.drop k) hp4 7 v4 rfl hC4 hok
        refine ⟨v4, rfl, ⟨_, ⟨s', v4, rs.drop k, R1, rfl⟩, ?_, ?_⟩, blk_cell hp4 7 rfl, blk_froz hp4 7, ?_⟩
        · have h1 : Out (FB p s wv rs) w w4 := hO.trans out4 fun g hg => hF g (.inr (.inr (.inl hg)))
          exact h1.trans R2 fun g hg => .inl (.inl hg)
        · rintro g (h1 | h1 | h1 | ⟨r, hr, h1⟩)
          · exact hF g (.inl h1)
          · exact hF g (.inr (.inl h1))
          · exact hF g (.inr (.inr (.inl (by rw [← ob4]; exact h1))))
          · exact hF g (.inr (.inr (.inr ⟨r, List.mem_of_mem_drop hr, h1⟩)))
        · obtain ⟨a, c, hv, _⟩ := row4.row.shape
          exact ⟨a, _, c, hv⟩)
      clear hC hO hF hB I HO HF HBp
      go_wp2_with fail
      refine DI.out.mono ?_
      rintro E w4 ⟨v4, rfl, J, c4, f4, a4, n4, k4, rfl⟩
      have J := hide J
      go_wp2
      go_end0
      exact ⟨⟨_, rfl⟩, J.out⟩

end Go.Proofs.Ytimmohpnlieefaa
