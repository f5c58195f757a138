/- Texts of one layer, one behind the other. -/
import Derived.Test.YtkpnkknolobioaaGreatG22
import Derived.Test.YtkpnkknolobioaaGreatZPj
import Derived.Test.YtkpnkknolobioaaGreatG21
import Derived.Test.YtkpnkknolobioaaGreatG17
import Derived.Test.YtkpnkknolobioaaGreatG20
/- Sizes of a disk to which sections are written; the disk of a statement (layer 19). -/
namespace Go.Proofs.YtkpnkknolobioaaGreat
open Go.RowKit
set_option linter.unusedVariables false

theorem big_wr2 {t u : Nat} {st : Dm.Ds} (h : Big t u st) (s : Orp.Se) : Big (t + (Orp.sec s).length) (u + cnt (Orp.sec s).length + 1) (Orp.wr2 st s).2 := by
  have h1 := big_write h 3 (Orp.sec s)
  have h2 := big_sync h1
  unfold Orp.wr2
  split
  · exact h1.mono (Nat.le_refl _) (by omega)
  · split
    · exact h2
    · exact h2

theorem big_wr1 {t u : Nat} {st : Dm.Ds} (h : Big t u st) (base : Int) (s : Orp.Se) : Big (t + (Orp.sec s).length) (u + cnt (Orp.sec s).length + 2) (Orp.wr1 st base s).2 := by
  have h1 := big_cut h 3 base
  unfold Orp.wr1
  split
  · split
    · exact h1.mono (by omega) (by omega)
    · exact (big_wr2 h1 s).mono (Nat.le_refl _) (by omega)
  · exact (big_wr2 h s).mono (Nat.le_refl _) (by omega)

theorem big_wrS {t u : Nat} {st : Dm.Ds} (h : Big t u st) (base : Int) (s : Orp.Se) : Big (t + (Orp.sec s).length) (u + cnt (Orp.sec s).length + 2) (Orp.wrS st base s).2 := by
  unfold Orp.wrS
  split
  · exact h.mono (by omega) (by omega)
  · split
    · exact h.mono (by omega) (by omega)
    · split
      · exact h.mono (by omega) (by omega)
      · exact big_wr1 h base s

/-- Bytes that are written and synced first. -/
theorem pre_ok (b0 : List Int) : (Dm.write Dm.new 3 b0).1 = 0 ∧ (Dm.sync (Dm.write Dm.new 3 b0).2).1 = 0 ∧ Orp.Q b0 (Dm.sync (Dm.write Dm.new 3 b0).2).2 ∧ (Dm.sync (Dm.write Dm.new 3 b0).2).2.on = true := by
  obtain ⟨h1, h2, h3, h4⟩ := Orp.wrt3 b0.length Dm.new b0 (Nat.le_refl _) rfl
  obtain ⟨g1, g2⟩ := h4 rfl
  rw [Orp.write3 b0 rfl]
  rcases h1 with ⟨k1, k2, k3⟩ | ⟨k1, _⟩
  · have e : Dm.sync (Dm.wrt 3 b0.length Dm.new b0).2 = (0, Dm.flush (Dm.burn (Dm.wrt 3 b0.length Dm.new b0).2)) := by
      unfold Dm.sync
      rw [if_neg (by simp [k2]), if_neg (by simp [Dm.off, g2])]
    rw [e]
    refine ⟨k1, rfl, ⟨?_, fun r hr => by simp [Dm.flush] at hr⟩, k2⟩
    have : (Dm.flush (Dm.burn (Dm.wrt 3 b0.length Dm.new b0).2)).sure 3 = b0 := by
      show Dm.dof _ _ 3 = b0
      rw [← Dm.hold_dof]
      have : Orp.hl (Dm.wrt 3 b0.length Dm.new b0).2 = b0 := by
        rw [k3]
        rfl
      exact this
    rw [this]
    exact List.prefix_rfl
  · rw [g1] at k1; simp at k1

/-- A disk that a statement made, at w0. -/
structure DkO (w0 w : World) (p : Nat) (st : Dm.Ds) : Prop where
  ex : ∃ F, Pk p F w st ∧ ∀ g, F g → w0.heap.size ≤ g
  bel : Below w0.heap.size w0 w

theorem DkO.call {w0 w : World} {p : Nat} {st st' : Dm.Ds} (h : DkO w0 w p st) {f : FuncId} {args : Array Value} {x : Value}
    (k : ∀ F, Pk p F w st → (∀ g, F g → w0.heap.size ≤ g) → Calls Tryz.prog f args w fun E w' => E = .returned x ∧ PStep p F w w' st') :
    Calls Tryz.prog f args w fun E w' => E = .returned x ∧ Hid (DkO w0 w' p st') := by
  obtain ⟨F, hk, hF⟩ := h.ex
  refine (k F hk hF).mono ?_
  rintro E w' ⟨rfl, F', pk, out, sub⟩
  refine ⟨rfl, hide ⟨⟨F', pk, fun g hg => ?_⟩, h.bel.trans (out.below hF h.bel.size)⟩⟩
  rcases sub g hg with q | q
  · exact hF g q
  · exact Nat.le_trans h.bel.size q

/-- A call that leaves the disk as it is. -/
theorem DkO.below {w0 w w' : World} {p : Nat} {st : Dm.Ds} (h : DkO w0 w p st) (hb : Below w.heap.size w w') : DkO w0 w' p st := by
  obtain ⟨F, hk, hF⟩ := h.ex
  exact ⟨⟨F, hk.below hb, hF⟩, h.bel.trans (hb.mono h.bel.size)⟩

/-- What lay below at w0 is still there. -/
theorem DkO.isC {w0 w : World} {p : Nat} {st : Dm.Ds} (h : DkO w0 w p st) {v : Value} {rs : List Cw} (hc : IsC w0 v rs) {F : Nat → Prop} (hF : ∀ g, F g → w0.heap.size ≤ g) : ∀ W, Out F w W → IsC W v rs := fun W ho =>
  hc.below (h.bel.trans (ho.below hF h.bel.size))

/-- Write of a section. -/
theorem DkO.wrS {w0 w : World} {p : Nat} {st : Dm.Ds} (h : DkO w0 w p st) {t u : Nat} (hB : Big t u st) (ht : t ≤ 100000000000) (hu : u + 20000 ≤ 1000000) (base e f : Int) (v : Value) (rs : List Cw) (hc : IsC w0 v rs) (hf : FitC rs) (hl : rs.length ≤ 2000) :
    Calls Tryz.prog 15 #[.pointer (some ⟨p, 0, none⟩), .int .i64 base, .agg #[.int .i64 e, .int .i64 f, v]] w fun E w' => E = .returned (.int .i64 (Orp.wrS st base ⟨e, f, cvs rs⟩).1) ∧ Hid (DkO w0 w' p (Orp.wrS st base ⟨e, f, cvs rs⟩).2) :=
  h.call fun F hk hF => powrite_any p F w st base e f v rs (h.isC hc hF) hf hl hk t u hB ht hu

end Go.Proofs.YtkpnkknolobioaaGreat

/- The document's disk: keep, Sync, Read, Durable. -/
namespace Go.Proofs.YtkpnkknolobioaaGreat
open Go.RowKit Go.Shelf
set_option linter.unusedVariables false

/-- The document's disk in the midst of a change. -/
structure DkW (p : Nat) (F : Nat → Prop) (w : World) (st : Dm.Ds) (s : Nat → Value) (wv : Value) (rs : List Rv) : Prop where
  blk : w.heap[p]? = some (.cells (dcells s wv st.on st.has st.left st.count) 62 (0, 0))
  inp : F p
  file : ∀ f, f < 4 → Byt F w (s f) (st.sure f)
  row : OwnG rawc 4 72 0 w wv rs
  inr : ∀ b, wv.ownBlock = some b → F b
  raw : ∀ r ∈ rs, Byt F w r.v r.bytes
  wait : rs.map Rv.r = st.wait
  lt : ∀ g, F g → g < w.heap.size

section
variable {p : Nat} {F G : Nat → Prop} {w w' w1 w2 : World} {st st' : Dm.Ds} {s s' : Nat → Value} {wv wv' : Value} {rs rs' : List Rv}

theorem DkV.toW (h : DkV p F w st s wv rs) : DkW p F w st s wv rs := ⟨h.blk, h.inp, h.file, h.row, h.inr, h.raw, h.wait, h.lt⟩
theorem DkW.toV (h : DkW p F w st s wv rs) (hok : Dm.Ok st) : DkV p F w st s wv rs := ⟨h.blk, h.inp, h.file, h.row, h.inr, h.raw, h.wait, h.lt, hok⟩

theorem DkW.below (h : DkW p F w st s wv rs) (hb : Below w.heap.size w w') : DkW p F w' st s wv rs :=
  have ha : ∀ g, F g → w'.heap[g]? = w.heap[g]? := fun g hg => hb.block g (h.lt g hg)
  ⟨(ha p h.inp).trans h.blk, h.inp, fun f hf => (h.file f hf).agree fun b hb => ha b ((h.file f hf).2 b hb).1, h.row.agree fun b hb => ha b (h.inr b hb), h.inr, fun r hr => (h.raw r hr).agree fun b hb => ha b ((h.raw r hr).2 b hb).1, h.wait, fun g hg => Nat.lt_of_lt_of_le (h.lt g hg) hb.size⟩

theorem DkW.grow (h : DkW p F w st s wv rs) (hG : ∀ g, F g → G g) (hl : ∀ g, G g → g < w.heap.size) : DkW p G w st s wv rs :=
  ⟨h.blk, hG p h.inp, fun f hf => (h.file f hf).mono hG, h.row, fun b hb => hG b (h.inr b hb), fun r hr => (h.raw r hr).mono hG, h.wait, hl⟩

theorem DkW.put {cs : Array Value} (hb : w.heap[p]? = some (.cells cs 62 (0, 0))) (hp : F p) (hlt : ∀ g, F g → g < w.heap.size) (j : Nat) (u : Value)
    (hc : cs.setIfInBounds j u = dcells s' wv' st'.on st'.has st'.left st'.count)
    (hf : ∀ f, f < 4 → Byt F w (s' f) (st'.sure f)) (hr : OwnG rawc 4 72 0 w wv' rs') (hir : ∀ b, wv'.ownBlock = some b → F b)
    (hw : ∀ r ∈ rs', Byt F w r.v r.bytes) (hwait : rs'.map Rv.r = st'.wait) :
    DkW p F (w.setCell ⟨p, j, none⟩ u) st' s' wv' rs' ∧ Out (fun g => g = p) w (w.setCell ⟨p, j, none⟩ u) := by
  have hne : ∀ b, b ≠ p → (w.setCell ⟨p, j, none⟩ u).heap[b]? = w.heap[b]? := fun b hb => Below.heap_setCell _ _ _ _ hb
  have hsz : w.heap.size ≤ (w.setCell ⟨p, j, none⟩ u).heap.size := by simp [World.setCell]
  have hrp : ∀ b, wv'.ownBlock = some b → b ≠ p := by
    intro b hb' e
    obtain ⟨cs, hc'⟩ := hr.type hb'
    rw [e, hb] at hc'
    simp at hc'
  refine ⟨⟨?_, hp, fun f hf' => (hf f hf').agree fun b hb' => hne b ((hf f hf').ne hb (by decide) b hb'), hr.agree fun b hb' => hne b (hrp b hb'), hir, fun r hr' => (hw r hr').agree fun b hb' => hne b ((hw r hr').ne hb (by decide) b hb'), hwait, fun g hg => Nat.lt_of_lt_of_le (hlt g hg) hsz⟩, Out.of_grown (grown_setCell w ⟨p, j, none⟩ u) fun g hg => by simp at hg; exact hg.symm⟩
  rw [set_cells hb, hc]

theorem dcells_sup (s : Nat → Value) (wv : Value) (on has : Bool) (left count : Int) (f : Nat) (hf : f < 4) (v : Value) : (dcells s wv on has left count).setIfInBounds (1 + f) v = dcells (sup s f v) wv on has left count := by
  rcases (show f = 0 ∨ f = 1 ∨ f = 2 ∨ f = 3 by omega) with rfl | rfl | rfl | rfl <;> simp [dcells, sup]

/-- One file's bytes are a new row now. -/
theorem DkW.files (h : DkW p F w st s wv rs) {f : Nat} (hf : f < 4) {v : Value} {bs' : List Int} (hb : Below w.heap.size w w') (hv : Own .u8 5 w.heap.size w' v bs') :
    DkW p (fun g => F g ∨ v.ownBlock = some g) (w'.setCell ⟨p, 1 + f, none⟩ v) { st with sure := Dm.upd st.sure f bs' } (sup s f v) wv rs ∧ Out F w (w'.setCell ⟨p, 1 + f, none⟩ v) := by
  have h1 := (h.below hb).grow (G := fun g => F g ∨ v.ownBlock = some g) (fun g hg => .inl hg) (fun g hg => by
    rcases hg with hg | hg
    · exact Nat.lt_of_lt_of_le (h.lt g hg) hb.size
    · exact (hv.block g hg).2)
  obtain ⟨q1, q2⟩ := DkW.put (F := fun g => F g ∨ v.ownBlock = some g) (st' := { st with sure := Dm.upd st.sure f bs' }) (s' := sup s f v) (wv' := wv) (rs' := rs) h1.blk h1.inp h1.lt (1 + f) v (dcells_sup _ _ _ _ _ _ f hf v) (fun j hj => by
    show Byt _ w' (sup s f v j) (Dm.upd st.sure f bs' j)
    unfold sup Dm.upd
    by_cases e : j = f
    · rw [if_pos e, if_pos e]
      refine ⟨hv.is, fun b hb' => ⟨.inr hb', ?_⟩⟩
      obtain ⟨cs, hc⟩ := hv.type hb'
      exact ⟨cs, _, hc⟩
    · rw [if_neg e, if_neg e]; exact h1.file j hj) h1.row h1.inr h1.raw h1.wait
  exact ⟨q1, (Out.of_below (F := F) hb).trans q2 fun g hg => .inl (hg ▸ h.inp)⟩

end

theorem Tryz.enters53 : ∀ args w, (callFunc 53 args).run Tryz.prog w = .ok (.enter 53 args) w := enters_of Tryz.func53 (by kernel_rfl) rfl

/-- Between two rounds of keep. -/
def KInv (p : Nat) (F : Nat → Prop) (w : World) (st : Dm.Ds) (wv : Value) (rs : List Rv) (k : Nat) (wr : World) : Prop :=
  ∃ s' F', DkW p F' wr { st with sure := Dm.dof st.sure (st.wait.take k) } s' wv rs ∧ Out F w wr ∧ ∀ g, F' g → F g ∨ w.heap.size ≤ g

set_option maxRecDepth 20000 in
set_option maxHeartbeats 8000000 in
theorem keepR_any (p : Nat) (F : Nat → Prop) (w : World) (st : Dm.Ds) (n : Nat) (hn : n ≤ 9223372036854775807) (h : Dk p F w st) (hsz : ∀ f, (st.sure f).length + Dm.bulk st.wait ≤ 140737488355000) (hw : st.wait.length ≤ 1000000) :
    Calls Tryz.prog 40 #[.pointer (some ⟨p, 0, none⟩), .int .i64 n] w fun E w' => (∃ v, E = .returned v) ∧ ∃ wv rs, KInv p F w st wv rs n w' := by
  obtain ⟨s, wv, rs, h⟩ := h
  have hlr := h.len
  obtain ⟨ao, cap, hv, hcap, hcm⟩ := h.row.row.shape
  have hao : 0 < rs.length → ∃ b, ao = some ⟨b, 0, none⟩ ∧ wv.ownBlock = some b := by
    intro h0
    rcases h.row.2 with ⟨_, h1⟩ | ⟨g, cap', cur, h1, _⟩
    · omega
    · rw [hv] at h1
      simp only [Value.slice.injEq, true_and] at h1
      exact ⟨g, h1.1, by rw [hv, h1.1]; rfl⟩
  have H := hide h
  have HAO := hide hao
  have HLR := hide hlr
  have HV := hide hv
  have I0 : Hid (KInv p F w st wv rs 0 w) := hide ⟨s, F, by simpa [Dm.dof] using h.toW, Out.refl _ _, fun g hg => .inl hg⟩
  clear h hao hlr hv
  go_enter Tryz.func40, Tryz.ntmps40
  go_wp2
  go_loopw [4] (fun iv wr => ∃ k : Nat, k ≤ n ∧ k ≤ rs.length ∧ iv = .int .i64 k ∧ Hid (KInv p F w st wv rs k wr)) (fun iv _ => n - (intOf iv).toNat)
  case atStart => exact ⟨0, by omega, by omega, rfl, I0⟩
  case round =>
    obtain ⟨k, hk, hkl, rfl, I⟩ := hrel
    obtain ⟨s', F', hD, hO, hF⟩ := I.out
    have HO := hide hO
    have HF := hide hF
    have c5 : wr.cell? ⟨p, 5, none⟩ = some wv := blk_cell hD.blk 5 rfl
    rw [HV.out] at c5
    by_cases hlt : k < n
    · by_cases hlt2 : k < rs.length
      · obtain ⟨g, rfl, hg⟩ := HAO.out (by omega)
        obtain ⟨r, hr⟩ : ∃ r, rs[k]? = some r := ⟨rs[k], by rw [List.getElem?_eq_getElem]⟩
        have hcell := fun j u hj => hD.row.cells hg (k * 4 + j) u (gcells_at rawc_len rs k r hr j u hj)
        have e0 : wr.cell? ⟨g, k * 4, none⟩ = some (.int .i64 r.file) := by have := hcell 0 _ rfl; rwa [add_at, Nat.zero_add] at this
        have e1 : wr.cell? ⟨g, k * 4 + 1, none⟩ = some (.bool r.cut) := by have := hcell 1 _ rfl; rwa [add_at, Nat.zero_add] at this
        have e2 : wr.cell? ⟨g, k * 4 + 2, none⟩ = some (.int .i64 r.to) := by have := hcell 2 _ rfl; rwa [add_at, Nat.zero_add] at this
        have e3 : wr.cell? ⟨g, k * 4 + 3, none⟩ = some r.v := by have := hcell 3 _ rfl; rwa [add_at, Nat.zero_add] at this
        obtain ⟨V, hV, hV2, szV, belV, bV, x0, x1, x2, x3⟩ := new_four wr 72 (.int .i64 0) (.bool false) (.int .i64 0) (.slice none 0 0) (.int .i64 r.file) (.bool r.cut) (.int .i64 r.to) r.v
        have hst : st.wait[k]? = some r.r := raw_at H.out hr
        have hfit := Dm.valid_at H.out.ok hst
        have hf : r.file < 4 := hfit.1
        have hbl := bulk_at hst
        have hdl := dof_len st.sure (st.wait.take k) r.file
        have hszf := hsz r.file
        obtain ⟨ar, cr, hrv, _, _⟩ := (hD.raw r (List.mem_of_getElem? hr)).1.shape
        have ir := ((hD.raw r (List.mem_of_getElem? hr)).1).below belV
        have hp : p < wr.heap.size := blk_lt hD.blk
        have cfv : V.cell? ⟨p, 1 + r.file, none⟩ = some (s' r.file) := (belV.cell (p := ⟨p, 1 + r.file, none⟩) hp).trans (by
          rcases (show r.file = 0 ∨ r.file = 1 ∨ r.file = 2 ∨ r.file = 3 by omega) with e | e | e | e <;> rw [e]
          · exact blk_cell hD.blk 1 rfl
          · exact blk_cell hD.blk 2 rfl
          · exact blk_cell hD.blk 3 rfl
          · exact blk_cell hD.blk 4 rfl)
        obtain ⟨af, nf, cpf, hsf⟩ := (hD.file r.file hf).1.form
        have BI : Hid (Calls Tryz.prog 53 #[s' r.file, .agg #[.int .i64 r.file, .bool r.cut, .int .i64 r.to, r.v]] V.drew fun E w2 => ∃ v2, E = .returned v2 ∧ (KInv p F w st wv rs (k + 1) (w2.setCell ⟨p, 1 + r.file, none⟩ v2) ∧ (w2.cell? ⟨wr.heap.size, 0, none⟩ = some (.int .i64 r.file) ∧ w2.cell? ⟨wr.heap.size, 1, none⟩ = some (.bool r.cut) ∧ w2.cell? ⟨wr.heap.size, 2, none⟩ = some (.int .i64 r.to) ∧ w2.cell? ⟨wr.heap.size, 3, none⟩ = some r.v) ∧ w2.cell? ⟨p, 1 + r.file, none⟩ = some (s' r.file) ∧ w2.frozen? ⟨p, 1 + r.file, none⟩ = false ∧ ∃ a n c, v2 = .slice a n c)) := hide (by
          refine (withR_any (s' r.file) _ r V.drew (((hD.file r.file hf).1.below belV).drewN 1) (ir.drewN 1) (fun hc => hfit.2.1 hc) (by have : r.r.bytes = r.bytes := rfl; rw [this] at hbl; show (Dm.dof st.sure (st.wait.take k) r.file).length + r.bytes.length ≤ _; omega)).mono ?_
          rintro E w2 ⟨v2, rfl, own2, bel2⟩
          have belV' : Below V.heap.size V w2 := (below_drewN (Below.refl _ _) 1).trans bel2
          have belW : Below wr.heap.size wr w2 := belV.trans (belV'.mono (by omega))
          have hb2 := (belV'.block wr.heap.size (by omega)).trans bV
          have hp2 := (belW.block p hp).trans hD.blk
          obtain ⟨q1, q2⟩ := hD.files hf belW (own2.rebase (show wr.heap.size ≤ V.drew.heap.size by show wr.heap.size ≤ V.heap.size; omega))
          have e5 : Dm.dof st.sure (st.wait.take (k + 1)) = Dm.upd (Dm.dof st.sure (st.wait.take k)) r.file (Dm.wth (Dm.dof st.sure (st.wait.take k) r.file) r.r) := by rw [dof_next hst]; rfl
          refine ⟨v2, rfl, ⟨_, _, by rw [e5]; exact q1, HO.out.trans q2 HF.out, fun g hg => ?_⟩, ⟨blk_cell hb2 0 rfl, blk_cell hb2 1 rfl, blk_cell hb2 2 rfl, blk_cell hb2 3 rfl⟩, (belV'.cell (p := ⟨p, 1 + r.file, none⟩) (by show p < V.heap.size; omega)).trans cfv, blk_froz hp2 _, own2.is.form⟩
          rcases hg with hg | hg
          · exact HF.out g hg
          · have h1 := (own2.block g hg).1
            have h2 : V.drew.heap.size = V.heap.size := rfl
            exact .inr (by have := HO.out.size; omega))
        have hlt' : (k : Int) < n := by omega
        have hlt2' : (k : Int) < rs.length := by omega
        have hk0 : (0 : Int) ≤ (k : Int) := by omega
        have hf0 : (0 : Int) ≤ (r.file : Int) := by omega
        have hf4 : (r.file : Int) < 4 := by omega
        rw [hrv] at e3 hV hV2 x3 BI
        rw [hsf] at cfv BI
        clear hcell hr hst hfit hbl hdl hszf ir hO hF hD bV I hrv hsf hg
        go_wp2_with fail
        go_region_law (refine call_at rfl 53 #[.tmp 36, .tmp 37] #[22, 72] rfl Tryz.enters53 #[.slice af nf cpf, .agg #[.int .i64 r.file, .bool r.cut, .int .i64 r.to, .slice ar r.bytes.length cr]] (by first | rfl | (simp [Act.eval]; done)) BI.out ?_; rintro v2 w2 ⟨J, ⟨y0, y1, y2, y3⟩, cp2, fp2, a2, n2, c2, rfl⟩; have J := hide J)
        all_goals
          go_wp2
          go_roundw
          case rel => exact ⟨k + 1, by omega, by omega, by go_num, J⟩
          case measure => simp [intOf]; omega
      · have hlt' : (k : Int) < n := by omega
        have hlt2' : ¬ (k : Int) < rs.length := by omega
        have hk0 : (0 : Int) ≤ (k : Int) := by omega
        have J : Hid (KInv p F w st wv rs n wr) := hide (by
          have e : st.wait.take n = st.wait.take k := by
            have := HLR.out
            rw [List.take_of_length_le (by omega), List.take_of_length_le (by omega)]
          have := I.out
          unfold KInv at this ⊢
          rw [e]
          exact this)
        clear hO hF hD I
        go_wp2
        go_end0
        exact ⟨⟨_, rfl⟩, _, _, J.out⟩
    · obtain rfl : k = n := by omega
      have hlt' : ¬ (k : Int) < k := by omega
      clear hO hF hD
      go_wp2
      go_end0
      exact ⟨⟨_, rfl⟩, _, _, I.out⟩

set_option maxRecDepth 20000 in
set_option maxHeartbeats 1000000 in
theorem durR_any (p : Nat) (F : Nat → Prop) (w : World) (st : Dm.Ds) (file : Int) (h : Dk p F w st) (hsz : ∀ f, (st.sure f).length + Dm.bulk st.wait ≤ 140737488355000) :
    Calls Tryz.prog 28 #[.pointer (some ⟨p, 0, none⟩), .int .i64 file] w fun E w' => ∃ v, E = .returned v ∧ Own .u8 5 w.heap.size w' v (duB st file) ∧ Below w.heap.size w w' := by
  have HA := hide (noneR_any p F w st h)
  cases hin : Dm.inF file
  · have e2 : duB st file = [] := by simp [duB, hin]
    have hcase : file < 0 ∨ (¬ file < 0 ∧ 4 ≤ file) := by
      simp [Dm.inF] at hin
      omega
    rw [e2]
    clear h e2 hin
    rcases hcase with hc | ⟨hc, hc2⟩
    all_goals
      go_enter Tryz.func28, Tryz.ntmps28
      go_wp2_with fail
      refine HA.out.mono ?_
      rintro E w1 ⟨rfl, rfl⟩
      go_wp2
      go_ret
      exact ⟨_, rfl, Own.nil _ _ _ _, Below.refl _ _⟩
  · obtain ⟨f, hf, rfl⟩ := inF_nat hin
    have e2 : duB st f = st.sure f := by simp [duB, hin]
    rw [e2]
    obtain ⟨s, wv, rs, h⟩ := h
    have cf := h.cf f hf
    have hl := hsz f
    have isf := (h.file f hf).1
    have hf0 : (0 : Int) ≤ (f : Int) := by omega
    have hf4 : (f : Int) < 4 := by omega
    have h0 : ¬ (f : Int) < 0 := by omega
    have h4 : ¬ (4 : Int) ≤ (f : Int) := by omega
    clear h e2 hin
    go_enter Tryz.func28, Tryz.ntmps28
    go_wp2_with fail
    refine HA.out.mono ?_
    rintro E w1 ⟨rfl, rfl⟩
    go_wp2_with (at_builtin; refine wpList_append_is rfl (.tmp 17) (.tmp 23) 22 rfl .u8 5 w.heap.size 1 Tryz.underlying22 Tryz.info5 (by decide) _ [] rfl (Own.nil _ _ _ _) _ (st.sure f) rfl isf (by simp; omega) (Nat.le_refl _) ?_)
    intro v1 w1 own1 bel1 _
    go_wp2
    go_ret
    exact ⟨_, rfl, own1, bel1⟩

end Go.Proofs.YtkpnkknolobioaaGreat

/- The document's disk: Cut, Sync, Start. -/
namespace Go.Proofs.YtkpnkknolobioaaGreat
open Go.RowKit Go.Shelf
set_option linter.unusedVariables false

theorem rawc_one (rs : List Rv) (h : ∀ r ∈ rs, ∃ a n c, r.v = .slice a n c) : ∀ u ∈ gcells rawc rs, u.oneCell' = true := by
  induction rs with
  | nil => simp [gcells]
  | cons r l ih =>
    intro u hu
    rw [gcells, List.mem_append] at hu
    rcases hu with hu | hu
    · obtain ⟨a, n, c, hv⟩ := h r (by simp)
      simp only [rawc, List.mem_cons, List.not_mem_nil, or_false] at hu
      rcases hu with rfl | rfl | rfl | rfl
      · rfl
      · rfl
      · rfl
      · rw [hv]; rfl
    · exact ih (fun r hr => h r (by simp [hr])) u hu

theorem Tryz.info72 : (Tryz.prog.info? 72).map (fun i => (i.zero, i.size, i.bytes)) = some (some (.agg #[.int .i64 0, .bool false, .int .i64 0, .slice none 0 0]), 4, 48) := by kernel_rfl

/-- A raw step becomes pending. -/
theorem pushR_tail {p : Nat} {F : Nat → Prop} {W W' : World} {st : Dm.Ds} {s : Nat → Value} {wv : Value} {rs : List Rv} (h : DkV p F W st s wv rs) (hW : Below W.heap.size W W') (hsz : W'.heap.size = W.heap.size ∨ True) (r : Rv) (hraw : Byt (fun _ => True) W' r.v r.bytes) (hfit : Dm.fits (Dm.dof st.sure st.wait) r.r) (hlen : rs.length ≤ 1000000) :
    ∃ V, W'.alloc (.cells #[.int .i64 r.file, .bool r.cut, .int .i64 r.to, r.v] 72) = V ∧ V.cell? ⟨p, 5, none⟩ = some wv ∧ Hid (∀ ty, ∃ v' w', (Builtin.append_ #[60, 60] ty #[wv, .slice (some ⟨W'.heap.size, 0, none⟩) 1 1]).run Tryz.prog V = .ok v' w' ∧
      ((∃ F', Dk p F' (w'.setCell ⟨p, 5, none⟩ v') (Dm.push st r.r) ∧ Out F W (w'.setCell ⟨p, 5, none⟩ v') ∧ ∀ g, F' g → F g ∨ W.heap.size ≤ g ∨ r.v.ownBlock = some g) ∧ w'.cell? ⟨p, 5, none⟩ = some wv ∧ w'.frozen? ⟨p, 5, none⟩ = false ∧ ∃ a n c, v' = .slice a n c)) := by
  obtain ⟨V, hV, szV, belV, rowV⟩ := rows_step rawc 4 rawc_len 72 W' #[.int .i64 r.file, .bool r.cut, .int .i64 r.to, r.v] 1 [r] rfl rfl (by decide)
  have belV' : Below W.heap.size W V := hW.trans (belV.mono hW.size)
  have hV1 := h.below belV'
  refine ⟨V, hV, hV1.c5, hide fun ty => ?_⟩
  obtain ⟨v', w', hr, own', gr', at'⟩ := run_append_rows_at (P := Tryz.prog) 60 ty rawc 4 48 rawc_len (by decide) (by decide) (.agg #[.int .i64 0, .bool false, .int .i64 0, .slice none 0 0]) rfl 72 0 Tryz.underlying60 Tryz.info72 wv rs hV1.row _ [r] rowV.row (rawc_one [r] fun q hq => by simp at hq; subst hq; exact hraw.1.form) (by simp; omega) (Nat.zero_le _)
  have out' : Out (fun g => wv.ownBlock = some g) V w' := Out.of_grown gr' fun g hg => hg
  have nu : ∀ (v : Value) (zs : List Int) (G : Nat → Prop), Byt G V v zs → Byt G w' v zs := fun v zs G hB => hB.agree fun b hb => by
    obtain ⟨_, cs, fr, hc⟩ := hB.2 b hb
    refine out'.block b (blk_lt hc) fun h1 => ?_
    obtain ⟨cs', hc'⟩ := hV1.row.type h1
    rw [hc] at hc'
    simp at hc'
  have hrawV : Byt (fun _ => True) V r.v r.bytes := hraw.agree fun b hb => by obtain ⟨_, cs, fr, hc⟩ := hraw.2 b hb; exact belV.block b (blk_lt hc)
  have hp' : w'.heap[p]? = some (.cells (dcells s wv st.on st.has st.left st.count) 62 (0, 0)) := (out'.block p (blk_lt hV1.blk) fun h1 => by
    obtain ⟨cs', hc'⟩ := hV1.row.type h1
    rw [hV1.blk] at hc'
    simp at hc').trans hV1.blk
  obtain ⟨F', hF'⟩ : ∃ F' : Nat → Prop, F' = fun g => F g ∨ v'.ownBlock = some g ∨ r.v.ownBlock = some g := ⟨_, rfl⟩
  have hlt : ∀ g, F' g → g < w'.heap.size := by
    rw [hF']
    rintro g (h1 | h1 | h1)
    · exact Nat.lt_of_lt_of_le (hV1.lt g h1) out'.size
    · exact (own'.lt g h1).2
    · obtain ⟨_, cs, fr, hc⟩ := hrawV.2 g h1
      exact Nat.lt_of_lt_of_le (blk_lt hc) out'.size
  have hsub : ∀ g, F g → F' g := fun g hg => by rw [hF']; exact .inl hg
  obtain ⟨R1, R2⟩ := DkW.put (F := F') (st' := Dm.push st r.r) (s' := s) (wv' := v') (rs' := rs ++ [r]) hp' (hsub p hV1.inp) hlt 5 v' rfl (fun f hf => nu _ _ _ ((hV1.file f hf).mono hsub)) own' (fun b hb => by rw [hF']; exact .inr (.inl hb)) (fun q hq => by
    rcases List.mem_append.1 hq with hq | hq
    · exact nu _ _ _ ((hV1.raw q hq).mono hsub)
    · simp at hq
      subst hq
      have := nu _ _ _ hrawV
      exact ⟨this.1, fun b hb => ⟨by rw [hF']; exact .inr (.inr hb), (this.2 b hb).2⟩⟩) (by rw [List.map_append, h.wait]; rfl)
  refine ⟨v', w', hr, ⟨F', ⟨s, v', rs ++ [r], R1.toV (ok_push h.ok hfit)⟩, ?_, fun g hg => ?_⟩, blk_cell hp' 5 rfl, blk_froz hp' 5, ?_⟩
  · have h1 : Out F W w' := (Out.of_below (F := F) belV').trans out' fun g hg => .inl (h.inr g hg)
    exact h1.trans R2 fun g hg => .inl (hg ▸ h.inp)
  · rw [hF'] at hg
    rcases hg with h1 | h1 | h1
    · exact .inl h1
    · rcases at' with h2 | h2
      · exact .inl (h.inr g (by rw [← h2]; exact h1))
      · rw [h1] at h2
        simp at h2
        exact .inr (.inl (by have := belV'.size; omega))
    · exact .inr (.inr h1)
  · obtain ⟨a, c, hv, _⟩ := own'.row.shape
    exact ⟨a, _, c, hv⟩

theorem not_inF {file : Int} (h : Dm.inF file = false) : file < 0 ∨ (¬ file < 0 ∧ 4 ≤ file) := by
  simp [Dm.inF] at h
  omega

set_option maxRecDepth 20000 in
set_option maxHeartbeats 4000000 in
theorem cutR_any (p : Nat) (F : Nat → Prop) (w : World) (st : Dm.Ds) (file len : Int) (h : Dk p F w st) (hsz : ∀ f, (st.sure f).length + Dm.bulk st.wait ≤ 140737488355000) (hlen : st.wait.length ≤ 1000000) (hl : st.left ≤ 9223372036854775807) (hc : st.count < 9223372036854775807) :
    Calls Tryz.prog 46 #[.pointer (some ⟨p, 0, none⟩), .int .i64 file, .int .i64 len] w fun E w' => E = .returned (.int .i64 (Dm.cutD st file len).1) ∧ DStep p F w w' (Dm.cutD st file len).2 := by
  have HA := hide (askedR_any p F w st h)
  have HK := hide h
  unfold Dm.cutD
  cases hon : st.on
  · rw [if_pos rfl]
    have hk := ask_off hon
    clear hon h
    go_enter Tryz.func46, Tryz.ntmps46
    go_wp2_with fail
    refine HA.out.mono ?_
    rintro E w1 ⟨rfl, rfl⟩
    rw [hk]
    go_wp2
    go_ret
    exact ⟨rfl, DStep.same HK.out (Below.refl _ _)⟩
  · rw [if_neg (by simp)]
    have hk := ask_on hon
    cases hin : Dm.inF file
    · rw [if_pos rfl]
      have hcase := not_inF hin
      clear hon h hin
      rcases hcase with hc1 | ⟨hc1, hc2⟩
      all_goals
        go_enter Tryz.func46, Tryz.ntmps46
        go_wp2_with fail
        refine HA.out.mono ?_
        rintro E w1 ⟨rfl, rfl⟩
        rw [hk]
        go_wp2
        go_ret
        exact ⟨rfl, DStep.same HK.out (Below.refl _ _)⟩
    · rw [if_neg (by simp)]
      obtain ⟨f, hf, rfl⟩ := inF_nat hin
      rw [Int.toNat_natCast]
      have hf0 : ¬ (f : Int) < 0 := by omega
      have hf4 : ¬ (4 : Int) ≤ (f : Int) := by omega
      by_cases hneg : len < 0
      · rw [if_pos (.inl hneg)]
        clear hon h hin
        go_enter Tryz.func46, Tryz.ntmps46
        go_wp2_with fail
        refine HA.out.mono ?_
        rintro E w1 ⟨rfl, rfl⟩
        rw [hk]
        go_wp2
        go_ret
        exact ⟨rfl, DStep.same HK.out (Below.refl _ _)⟩
      · obtain ⟨l, rfl⟩ : ∃ l : Nat, len = l := ⟨len.toNat, by omega⟩
        have hhl := Dm.hold_len st.wait (st.sure f) f
        have hszf := hsz f
        have HH := hide (holdsR_any p F w st f h hf hszf hlen)
        have hneg' : ¬ (l : Int) < 0 := hneg
        by_cases hbig : (Dm.hold f (st.sure f) st.wait).length < l
        · rw [if_pos (.inr (by omega))]
          have hgt : ((Dm.hold f (st.sure f) st.wait).length : Int) < (l : Int) := by omega
          obtain ⟨H, hH⟩ : ∃ H, H = Dm.hold f (st.sure f) st.wait := ⟨_, rfl⟩
          rw [← hH] at HH hgt
          clear hon h hin hbig hhl hH hneg
          go_enter Tryz.func46, Tryz.ntmps46
          go_wp2_with fail
          refine HA.out.mono ?_
          rintro E w1 ⟨rfl, rfl⟩
          rw [hk]
          go_wp2_with fail
          refine HH.out.mono ?_
          rintro E w2 ⟨v2, rfl, own2, bel2⟩
          obtain ⟨a2, k2, hv2, _, _⟩ := own2.is.shape
          subst hv2
          go_wp2
          go_ret
          exact ⟨rfl, DStep.same HK.out bel2⟩
        · rw [if_neg (by omega)]
          have hgt : ¬ ((Dm.hold f (st.sure f) st.wait).length : Int) < (l : Int) := by omega
          have hfit : Dm.fits (Dm.dof st.sure st.wait) ⟨f, true, l, []⟩ := ⟨hf, fun _ => by rw [← Dm.hold_dof]; show l ≤ (Dm.hold f (st.sure f) st.wait).length; omega, fun hc => by cases hc⟩
          have ST : Hid (∀ w2, Below w.heap.size w w2 → Calls Tryz.prog 39 #[.pointer (some ⟨p, 0, none⟩)] w2 fun E w' => E = .returned (.int .i64 (if Dm.off st then 6 else 0)) ∧ DStep p F w w' (if Dm.off st then Dm.dark st else Dm.burn st)) := hide fun w2 hb => by
            refine (stepR_any p F w2 st (h.below hb) hl hc).mono ?_
            rintro E w' ⟨rfl, J⟩
            exact ⟨rfl, J.trans (Out.of_below hb) fun g hg => .inl hg⟩
          obtain ⟨H, hH⟩ : ∃ H, H = Dm.hold f (st.sure f) st.wait := ⟨_, rfl⟩
          rw [← hH] at HH hgt
          have HFIT := hide hfit
          clear hon h hin hbig hhl hH hneg hfit
          cases hoff : Dm.off st
          · rw [hoff] at ST
            simp only [Bool.false_eq_true, if_false] at ST
            rw [if_neg (by simp)]
            simp only [Int.toNat_natCast]
            go_enter Tryz.func46, Tryz.ntmps46
            go_wp2_with fail
            refine HA.out.mono ?_
            rintro E w1 ⟨rfl, rfl⟩
            rw [hk]
            go_wp2_with fail
            refine HH.out.mono ?_
            rintro E w2 ⟨v2, rfl, own2, bel2⟩
            obtain ⟨a2, k2, hv2, _, _⟩ := own2.is.shape
            subst hv2
            have HST := hide (ST.out w2 bel2)
            clear own2
            go_wp2_with fail
            refine HST.out.mono ?_
            rintro E w3 ⟨rfl, F3, ⟨s3, wv3, rs3, K3⟩, O3, S3⟩
            have hlr3 := K3.len
            have hbw : (Dm.burn st).wait.length = st.wait.length := rfl
            obtain ⟨V, hV, c5, X⟩ := pushR_tail K3 (Below.refl _ _) (.inr trivial) ⟨f, true, l, .slice none 0 0, []⟩ (Byt.nil _ _) HFIT.out (by omega)
            have c5' := K3.c5
            have HO3 := hide O3
            have HS3 := hide S3
            clear K3 O3 S3
            go_wp2_with (at_builtin; refine wpList_append_at rfl (.tmp 40) (.tmp 44) 60 rfl wv3 (.slice (some ⟨w3.heap.size, 0, none⟩) 1 1) rfl rfl X.out ?_)
            intro v4 w4 F' q1 q2 q3 d5 f5 a4 n4 k4 hv4
            subst hv4
            have J : Hid (DStep p F w (w4.setCell ⟨p, 5, none⟩ (.slice a4 n4 k4)) (Dm.push (Dm.burn st) ⟨f, true, l, []⟩)) := hide (by
              refine ⟨F', q1, HO3.out.trans q2 HS3.out, fun g hg => ?_⟩
              rcases q3 g hg with h | h | h
              · exact HS3.out g h
              · exact .inr (Nat.le_trans HO3.out.size h)
              · simp [Value.ownBlock] at h)
            clear q1 q2 q3
            go_wp2
            go_ret
            exact ⟨rfl, J.out⟩
          · rw [hoff] at ST
            simp only [if_true] at ST
            rw [if_pos rfl]
            go_enter Tryz.func46, Tryz.ntmps46
            go_wp2_with fail
            refine HA.out.mono ?_
            rintro E w1 ⟨rfl, rfl⟩
            rw [hk]
            go_wp2_with fail
            refine HH.out.mono ?_
            rintro E w2 ⟨v2, rfl, own2, bel2⟩
            obtain ⟨a2, k2, hv2, _, _⟩ := own2.is.shape
            subst hv2
            have HST := hide (ST.out w2 bel2)
            clear own2
            go_wp2_with fail
            refine HST.out.mono ?_
            rintro E w3 ⟨rfl, J⟩
            have J := hide J
            go_wp2
            go_ret
            exact ⟨rfl, J.out⟩

theorem dof_all {st : Dm.Ds} (n : Nat) (hn : n = st.wait.length) : st.wait.take n = st.wait := by rw [hn, List.take_of_length_le (Nat.le_refl _)]

set_option maxRecDepth 20000 in
set_option maxHeartbeats 4000000 in
theorem syncR_any (p : Nat) (F : Nat → Prop) (w : World) (st : Dm.Ds) (h : Dk p F w st) (hsz : ∀ f, (st.sure f).length + Dm.bulk st.wait ≤ 140737488355000) (hlen : st.wait.length ≤ 1000000) (hl : st.left ≤ 9223372036854775807) (hc : st.count < 9223372036854775807) :
    Calls Tryz.prog 11 #[.pointer (some ⟨p, 0, none⟩)] w fun E w' => E = .returned (.int .i64 (Dm.sync st).1) ∧ DStep p F w w' (Dm.sync st).2 := by
  have HA := hide (askedR_any p F w st h)
  have HST := hide (stepR_any p F w st h hl hc)
  have HK := hide h
  clear h
  unfold Dm.sync
  cases hon : st.on
  · rw [if_pos rfl]
    have hk := ask_off hon
    clear hon
    go_enter Tryz.func11, Tryz.ntmps11
    go_wp2_with fail
    refine HA.out.mono ?_
    rintro E w1 ⟨rfl, rfl⟩
    rw [hk]
    go_wp2
    go_ret
    exact ⟨rfl, DStep.same HK.out (Below.refl _ _)⟩
  · rw [if_neg (by simp)]
    have hk := ask_on hon
    clear hon
    cases hoff : Dm.off st
    · rw [hoff] at HST
      simp only [Bool.false_eq_true, if_false] at HST
      rw [if_neg (by simp)]
      go_enter Tryz.func11, Tryz.ntmps11
      go_wp2_with fail
      refine HA.out.mono ?_
      rintro E w1 ⟨rfl, rfl⟩
      rw [hk]
      go_wp2_with fail
      refine HST.out.mono ?_
      rintro E w3 ⟨rfl, F3, K3, O3, S3⟩
      have KP := hide (keepR_any p F3 w3 (Dm.burn st) (Dm.burn st).wait.length (by show st.wait.length ≤ _; omega) K3 hsz hlen)
      obtain ⟨s3, wv3, rs3, K3⟩ := K3
      have hlr3 := K3.len
      have c5 := K3.c5
      obtain ⟨ao, cap, hv, _, _⟩ := K3.row.row.shape
      rw [hv] at c5
      rw [hlr3] at KP
      have HL3 := hide hlr3
      have HO3 := hide O3
      have HS3 := hide S3
      clear K3 O3 S3 hv hlr3
      go_wp2_with fail
      refine KP.out.mono ?_
      rintro E w4 ⟨⟨v4, rfl⟩, wv4, rs4, s4, F4, D4, O4, S4⟩
      have c5' : w4.cell? ⟨p, 5, none⟩ = some wv4 := blk_cell D4.blk 5 rfl
      have f5' := blk_froz D4.blk 5
      rw [dof_all _ HL3.out.symm] at D4
      obtain ⟨R1, R2⟩ := DkW.put (F := F4) (st' := Dm.flush (Dm.burn st)) (s' := s4) (wv' := .slice none 0 0) (rs' := []) D4.blk D4.inp D4.lt 5 (.slice none 0 0) rfl D4.file (OwnG.nil _ _ _ _ _) (fun b hb => by simp [Value.ownBlock] at hb) (fun r hr => by simp at hr) rfl
      have J : Hid (DStep p F w (w4.setCell ⟨p, 5, none⟩ (.slice none 0 0)) (Dm.flush (Dm.burn st))) := hide ⟨F4, ⟨_, _, _, R1.toV trivial⟩, (HO3.out.trans O4 HS3.out).trans R2 (fun g hg => by
        rcases S4 p D4.inp with h | h
        · rcases HS3.out p h with h | h
          · exact .inl (hg ▸ h)
          · exact .inr (hg ▸ h)
        · exact .inr (by have := HO3.out.size; omega)), fun g hg => by
        rcases S4 g hg with h | h
        · exact HS3.out g h
        · exact .inr (Nat.le_trans HO3.out.size h)⟩
      clear R1 R2 D4 O4 S4
      go_wp2
      go_ret
      exact ⟨rfl, J.out⟩
    · rw [hoff] at HST
      simp only [if_true] at HST
      rw [if_pos rfl]
      go_enter Tryz.func11, Tryz.ntmps11
      go_wp2_with fail
      refine HA.out.mono ?_
      rintro E w1 ⟨rfl, rfl⟩
      rw [hk]
      go_wp2_with fail
      refine HST.out.mono ?_
      rintro E w3 ⟨rfl, J⟩
      have J := hide J
      go_wp2
      go_ret
      exact ⟨rfl, J.out⟩

end Go.Proofs.YtkpnkknolobioaaGreat
