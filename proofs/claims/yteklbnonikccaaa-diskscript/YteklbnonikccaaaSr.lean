/- DiskScript: what holds between two calls of its script; the rows that it gathers at its end. -/
import Derived.Test.YteklbnonikccaaaSq
import Derived.Test.YteklbnonikccaaaDj
namespace Go.Proofs.Yteklbnonikccaaa
open Go.RowKit Go.Shelf
set_option linter.unusedVariables false

/-- A call's five cells in the row. -/
def C5 (bb oo : Nat) (a : Aw) (va : Value) (k : Nat) (w : World) : Prop :=
  w.cell? ⟨bb, oo + k * 5, none⟩ = some (.int .i64 a.k) ∧ w.cell? ⟨bb, oo + k * 5 + 1, none⟩ = some (.int .i64 a.f) ∧ w.cell? ⟨bb, oo + k * 5 + 2, none⟩ = some (.int .i64 a.n) ∧ w.cell? ⟨bb, oo + k * 5 + 3, none⟩ = some (.int .i64 a.t) ∧ w.cell? ⟨bb, oo + k * 5 + 4, none⟩ = some va

def C7 (D R bb oo P Q kk : Nat) (a : Aw) (va : Value) (k : Nat) (w : World) : Prop :=
  w.cell? ⟨D, kk, none⟩ = some (.pointer (some ⟨P, 0, none⟩)) ∧ w.cell? ⟨R, kk, none⟩ = some (.pointer (some ⟨Q, 0, none⟩)) ∧ C5 bb oo a va k w

theorem C5.below {bb oo : Nat} {a : Aw} {va : Value} {k base : Nat} {w w' : World} (h : C5 bb oo a va k w) (hb : Below base w w') (hbb : bb < base) : C5 bb oo a va k w' :=
  ⟨(hb.cell (p := ⟨bb, oo + k * 5, none⟩) hbb).trans h.1, (hb.cell (p := ⟨bb, oo + k * 5 + 1, none⟩) hbb).trans h.2.1, (hb.cell (p := ⟨bb, oo + k * 5 + 2, none⟩) hbb).trans h.2.2.1, (hb.cell (p := ⟨bb, oo + k * 5 + 3, none⟩) hbb).trans h.2.2.2.1, (hb.cell (p := ⟨bb, oo + k * 5 + 4, none⟩) hbb).trans h.2.2.2.2⟩

def SI (base D R p0 q0 p1 q1 k : Nat) (w : World) : Prop := ∃ st0 st1 G, Quad base D R p0 q0 p1 q1 w st0 st0 st1 st1 G ∧ Big (400 * k) (8 * k) st0 ∧ Big (400 * k) (8 * k) st1

def gs (p0 q0 p1 q1 : Nat) : Nat → Nat → Prop
  | 0 => fun g => g = p0
  | 1 => fun g => g = q0
  | 2 => fun g => g = p1
  | _ => fun g => g = q1

theorem Is.stay {w w' : World} {v : Value} {zs : List Int} {base : Nat} (h1 : Is .u8 w v zs) (hlt : 0 < zs.length → ∀ b, v.ownBlock = some b → b < base) (hb : Below base w w') : Is .u8 w' v zs := by
  by_cases h0 : 0 < zs.length
  · exact h1.agree fun g hg => hb.block g (hlt h0 g hg)
  · refine ⟨h1.1, ?_⟩
    rcases h1.2 with h2 | ⟨ad, cp, h2, h3, h4, _⟩
    · exact .inl h2
    · exact .inr ⟨ad, cp, h2, h3, h4, fun i hi => by omega⟩

theorem four (P : Nat → Prop) (h0 : P 0) (h1 : P 1) (h2 : P 2) (h3 : P 3) : ∀ i, i < 4 → P i := by
  intro i hi
  rcases (show i = 0 ∨ i = 1 ∨ i = 2 ∨ i = 3 by omega) with rfl | rfl | rfl | rfl
  · exact h0
  · exact h1
  · exact h2
  · exact h3

theorem si_start {wb w2 w3 w4 w5 V : World} (K0 : Pk wb.heap.size (fun g => g = wb.heap.size) w2 Dm.new) (b2 : Below wb.heap.size wb w2) (K1 : Pk w2.heap.size (fun g => g = w2.heap.size) w3 Dm.new) (b3 : Below w2.heap.size w2 w3)
    (L0 : Dk w3.heap.size (fun g => g = w3.heap.size) w4 Dm.new) (b4 : Below w3.heap.size w3 w4) (L1 : Dk w4.heap.size (fun g => g = w4.heap.size) w5 Dm.new) (b5 : Below w4.heap.size w4 w5) (bV : Below w5.heap.size w5 V)
    (hD : V.heap[w5.heap.size]? = some (.cells #[.pointer (some ⟨wb.heap.size, 0, none⟩), .pointer (some ⟨w2.heap.size, 0, none⟩)] 37 (0, 0)))
    (hR : V.heap[w5.heap.size + 1]? = some (.cells #[.pointer (some ⟨w3.heap.size, 0, none⟩), .pointer (some ⟨w4.heap.size, 0, none⟩)] 40 (0, 0))) :
    SI wb.heap.size w5.heap.size (w5.heap.size + 1) wb.heap.size w3.heap.size w2.heap.size w4.heap.size 0 V ∧ Below wb.heap.size wb V ∧ wb.heap.size < w5.heap.size := by
  have z2 := K0.lt _ rfl
  have z3 := K1.lt _ rfl
  have z4 := L0.lt _ rfl
  have z5 := L1.lt _ rfl
  have b35 : Below w3.heap.size w3 w5 := b4.trans (b5.mono (by omega))
  have b25 : Below w2.heap.size w2 w5 := b3.trans (b35.mono (by omega))
  refine ⟨⟨Dm.new, Dm.new, gs wb.heap.size w3.heap.size w2.heap.size w4.heap.size, ⟨(K0.below b25).below bV, (L0.below b5).below bV, (K1.below b35).below bV, L1.below bV, ?_, ?_, ?_, hD, hR⟩, big_new, big_new⟩, (b2.trans (b25.mono (by omega))).trans (bV.mono (by omega)), by omega⟩
  · intro i j hi hj
    refine four (fun i => i ≠ j → ∀ g, gs _ _ _ _ i g → ¬ gs _ _ _ _ j g) ?_ ?_ ?_ ?_ i hi <;> refine four (fun j => _ ≠ j → ∀ g, gs _ _ _ _ _ g → ¬ gs _ _ _ _ j g) ?_ ?_ ?_ ?_ j hj <;> intro hne g h1 h2 <;> simp only [gs] at h1 h2 <;> omega
  · intro i hi
    refine four (fun i => ∀ g, gs _ _ _ _ i g → wb.heap.size ≤ g) ?_ ?_ ?_ ?_ i hi <;> intro g h1 <;> simp only [gs] at h1 <;> omega
  · intro i hi
    refine four (fun i => ¬ gs _ _ _ _ i w5.heap.size ∧ ¬ gs _ _ _ _ i (w5.heap.size + 1)) ?_ ?_ ?_ ?_ i hi <;> simp only [gs] <;> omega

theorem two_arrays (w : World) (t u : TypeId) (x0 x1 y0 y1 z : Value) : ∃ wA wB V1 V2 V3 V4, w.alloc (.cells #[z, z] t) = wA ∧ wA.heap.size = w.heap.size + 1 ∧ wA.alloc (.cells #[z, z] u) = wB ∧
    wB.setCell ⟨w.heap.size, 0, none⟩ x0 = V1 ∧ V1.setCell ⟨w.heap.size, 1, none⟩ x1 = V2 ∧ V2.setCell ⟨w.heap.size + 1, 0, none⟩ y0 = V3 ∧ V3.setCell ⟨w.heap.size + 1, 1, none⟩ y1 = V4 ∧
    (wB.cell? ⟨w.heap.size, 0, none⟩ = some z ∧ wB.frozen? ⟨w.heap.size, 0, none⟩ = false) ∧ (wB.cell? ⟨w.heap.size, 1, none⟩ = some z ∧ wB.frozen? ⟨w.heap.size, 1, none⟩ = false) ∧ (V1.cell? ⟨w.heap.size, 1, none⟩ = some z ∧ V1.frozen? ⟨w.heap.size, 1, none⟩ = false) ∧
    (V2.cell? ⟨w.heap.size + 1, 0, none⟩ = some z ∧ V2.frozen? ⟨w.heap.size + 1, 0, none⟩ = false) ∧ (V2.cell? ⟨w.heap.size + 1, 1, none⟩ = some z ∧ V2.frozen? ⟨w.heap.size + 1, 1, none⟩ = false) ∧ (V3.cell? ⟨w.heap.size + 1, 1, none⟩ = some z ∧ V3.frozen? ⟨w.heap.size + 1, 1, none⟩ = false) ∧
    V4.heap[w.heap.size]? = some (.cells #[x0, x1] t (0, 0)) ∧ V4.heap[w.heap.size + 1]? = some (.cells #[y0, y1] u (0, 0)) ∧ Below w.heap.size w V4 := by
  obtain ⟨wA, hwA, szA, belA, BA⟩ := blk_step w #[z, z] t
  obtain ⟨wB, hwB, szB, belB, BB⟩ := blk_step wA #[z, z] u
  rw [szA] at BB belB
  have BA' := (belB.block w.heap.size (by omega)).trans BA
  have t1 := set_cells BA' 0 x0
  have t2 := set_cells t1 1 x1
  have r1 := (Below.heap_setCell wB ⟨w.heap.size, 0, none⟩ x0 (w.heap.size + 1) (by simp)).trans BB
  have r2 := (Below.heap_setCell _ ⟨w.heap.size, 1, none⟩ x1 (w.heap.size + 1) (by simp)).trans r1
  have t3 := set_cells r2 0 y0
  have t4 := set_cells t3 1 y1
  have d1 := (Below.heap_setCell _ ⟨w.heap.size + 1, 0, none⟩ y0 w.heap.size (by simp)).trans t2
  have d2 := (Below.heap_setCell _ ⟨w.heap.size + 1, 1, none⟩ y1 w.heap.size (by simp)).trans d1
  have b0 : Below w.heap.size w wB := belA.trans (belB.mono (by omega))
  refine ⟨wA, wB, _, _, _, _, hwA, szA, hwB, rfl, rfl, rfl, rfl, ⟨blk_cell BA' 0 rfl, blk_froz BA' 0⟩, ⟨blk_cell BA' 1 rfl, blk_froz BA' 1⟩, ⟨blk_cell t1 1 rfl, blk_froz t1 1⟩, ⟨blk_cell r2 0 rfl, blk_froz r2 0⟩, ⟨blk_cell r2 1 rfl, blk_froz r2 1⟩, ⟨blk_cell t3 1 rfl, blk_froz t3 1⟩, d2, t4, ?_⟩
  exact ((((b0.setCell (Nat.le_refl _) _).setCell (Nat.le_refl _) _).setCell (by show w.heap.size ≤ w.heap.size + 1; omega) _).setCell (by show w.heap.size ≤ w.heap.size + 1; omega) _)

/-- Rows of bytes gathered in a row of the call's own. -/
structure RI (base : Nat) (w : World) (v : Value) (xs : List Value) (zs : List (List Int)) : Prop where
  row : OwnG (fun u : Value => [u]) 1 27 base w v xs
  len : xs.length = zs.length
  own : ∀ i, i < xs.length → Own .u8 5 base w (xs.getD i (.slice none 0 0)) (zs.getD i [])
  apart : ∀ i j, i < xs.length → j < xs.length → i ≠ j → (xs.getD i (.slice none 0 0)).ownBlock = none ∨ (xs.getD i (.slice none 0 0)).ownBlock ≠ (xs.getD j (.slice none 0 0)).ownBlock
  lens : ∀ i, i < xs.length → (zs.getD i []).length ≤ 100000000

theorem RI.nil (base : Nat) (w : World) : RI base w (.slice none 0 0) [] [] := ⟨OwnG.nil _ _ _ _ _, rfl, fun i hi => by simp at hi, fun i j hi => by simp at hi, fun i hi => by simp at hi⟩

theorem RI.below {base : Nat} {w w' : World} {v : Value} {xs : List Value} {zs : List (List Int)} (h : RI base w v xs zs) (hb : Below w.heap.size w w') : RI base w' v xs zs :=
  ⟨h.row.agree fun b hb' => hb.block b (h.row.lt b hb').2, h.len, fun i hi => (h.own i hi).below hb, h.apart, h.lens⟩

theorem getD_left {α : Type} {xs ys : List α} {i : Nat} (d : α) (h : i < xs.length) : (xs ++ ys).getD i d = xs.getD i d := by
  simp [List.getD, List.getElem?_append_left h]
theorem getD_right {α : Type} {xs ys : List α} {i : Nat} (d : α) (h : xs.length ≤ i) : (xs ++ ys).getD i d = ys.getD (i - xs.length) d := by
  simp [List.getD, List.getElem?_append_right h]

theorem ne_type {w : World} {u v : Value} {e f : TypeId} {base : Nat} {k k' : Nat} {xs : List Value} {zs : List Int} (h : Own .u8 e base w u zs) (hr : OwnG (fun u : Value => [u]) 1 f k' w v xs) (hef : e ≠ f) : u.ownBlock = none ∨ u.ownBlock ≠ v.ownBlock := by
  cases hu : u.ownBlock with
  | none => exact .inl rfl
  | some b =>
    refine .inr fun e' => ?_
    obtain ⟨c1, h1⟩ := h.type hu
    obtain ⟨c2, h2⟩ := hr.type e'.symm
    rw [h1] at h2
    simp at h2
    exact hef h2.2

theorem RI.app {base s1 : Nat} {w0 w w' : World} {v v' u1 u2 : Value} {xs : List Value} {zs : List (List Int)} {z1 z2 : List Int} (h : RI base w0 v xs zs) (hb : Below w0.heap.size w0 w) (hbase : base ≤ w0.heap.size)
    (o1 : Own .u8 5 w0.heap.size w u1 z1) (h1 : ∀ b, u1.ownBlock = some b → b < s1) (hs1 : w0.heap.size ≤ s1) (o2 : Own .u8 5 s1 w u2 z2) (l1 : z1.length ≤ 100000000) (l2 : z2.length ≤ 100000000)
    (hr : OwnG (fun u : Value => [u]) 1 27 base w' v' (xs ++ [u1, u2])) (hg : w.grownBy w' v.ownBlock) : RI base w' v' (xs ++ [u1, u2]) (zs ++ [z1, z2]) := by
  have k := h.below hb
  have hl := h.len
  have old : ∀ i, i < xs.length → ∀ b, (xs.getD i (.slice none 0 0)).ownBlock = some b → b < w0.heap.size := fun i hi b hb => ((h.own i hi).block b hb).2
  have n1 := (o1.rebase hbase).kept hg (ne_type o1 k.row (k := 0) (by decide))
  have n2 := (o2.rebase (show base ≤ s1 by omega)).kept hg (ne_type o2 k.row (k := 0) (by decide))
  have cas : ∀ i, i < (xs ++ [u1, u2]).length → i < xs.length ∨ i = xs.length ∨ i = xs.length + 1 := fun i hi => by simp at hi; omega
  have g1 : (xs ++ [u1, u2]).getD xs.length (.slice none 0 0) = u1 := by rw [getD_right _ (Nat.le_refl _)]; simp
  have g2 : (xs ++ [u1, u2]).getD (xs.length + 1) (.slice none 0 0) = u2 := by rw [getD_right _ (by omega)]; simp
  have e1 : (zs ++ [z1, z2]).getD xs.length [] = z1 := by rw [hl, getD_right _ (Nat.le_refl _)]; simp
  have e2 : (zs ++ [z1, z2]).getD (xs.length + 1) [] = z2 := by rw [hl, getD_right _ (by omega)]; simp
  have key : ∀ u v : Value, (∀ b d, u.ownBlock = some b → v.ownBlock = some d → b ≠ d) → u.ownBlock = none ∨ u.ownBlock ≠ v.ownBlock := by
    intro u v h
    cases hu : u.ownBlock with
    | none => exact .inl rfl
    | some b => exact .inr fun e => h b b hu e.symm rfl
  refine ⟨hr, by simp [hl], fun i hi => ?_, fun i j hi hj hne => ?_, fun i hi => ?_⟩
  · rcases cas i hi with h | rfl | rfl
    · rw [getD_left _ h, getD_left _ (by omega)]
      exact (k.own i h).kept hg (ne_type (k.own i h) k.row (k := 0) (by decide))
    · rw [g1, e1]; exact n1
    · rw [g2, e2]; exact n2
  · rcases cas i hi with h | rfl | rfl <;> rcases cas j hj with h' | rfl | rfl
    · rw [getD_left _ h, getD_left _ h']
      exact k.apart i j h h' hne
    · rw [getD_left _ h, g1]
      exact key _ _ fun b d hb hd => by have := old i h b hb; have := (o1.block d hd).1; omega
    · rw [getD_left _ h, g2]
      exact key _ _ fun b d hb hd => by have := old i h b hb; have := (o2.block d hd).1; omega
    · rw [getD_left _ h', g1]
      exact key _ _ fun b d hb hd => by have := old j h' d hd; have := (o1.block b hb).1; omega
    · exact absurd rfl hne
    · rw [g1, g2]
      exact key _ _ fun b d hb hd => by have := h1 b hb; have := (o2.block d hd).1; omega
    · rw [getD_left _ h', g2]
      exact key _ _ fun b d hb hd => by have := old j h' d hd; have := (o2.block b hb).1; omega
    · rw [g1, g2]
      exact key _ _ fun b d hb hd => by have := h1 d hd; have := (o2.block b hb).1; omega
    · exact absurd rfl hne
  · rcases cas i hi with h' | rfl | rfl
    · rw [getD_left _ (by omega)]
      exact h.lens i h'
    · rw [e1]; exact l1
    · rw [e2]; exact l2

theorem RI.lists {base : Nat} {w : World} {v : Value} {xs : List Value} {zs : List (List Int)} (h : RI base w v xs zs) (h0 : 0 < xs.length) : ∃ bl cl, v = .slice (some ⟨bl, 0, none⟩) xs.length cl ∧ xs.length ≤ cl ∧ Lists xs.length bl base w (fun i => xs.getD i (.slice none 0 0)) (fun i => zs.getD i []) := by
  rcases h.row.2 with ⟨_, hn⟩ | ⟨g, cap, cur, hv, _, hh, hc, _⟩
  · omega
  · refine ⟨g, cap, hv, hc, fun i hi => ?_, h.own, h.apart, fun i hi e => ?_, fun i hi => ?_⟩
    · have hg : v.ownBlock = some g := by rw [hv]; rfl
      have hx : xs[i]? = some (xs.getD i (.slice none 0 0)) := by rw [List.getD, List.getElem?_eq_getElem hi]; rfl
      have := h.row.cells hg (i * 1 + 0) _ (gcells_at (k := 1) (fun _ => rfl) xs i _ hx 0 _ rfl)
      rw [add_at] at this
      simpa using this
    · rcases ne_type (h.own i hi) h.row (k := 0) (by decide) with h1 | h1
      · rw [h1] at e; cases e
      · exact h1 (e.trans (by rw [hv]; rfl))
    · have := h.lens i hi
      omega

end Go.Proofs.Yteklbnonikccaaa
