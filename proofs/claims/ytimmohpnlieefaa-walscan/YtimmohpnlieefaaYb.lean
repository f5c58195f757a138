/- The contract of ApartCommits. -/
import Derived.Test.YtimmohpnlieefaaYa
import Derived.Deep.RegionHeld3
namespace Go.Proofs.Ytimmohpnlieefaa
open Go.RowKit
set_option linter.unusedVariables false

/-- What the lists are, ahead of ApartCommits. -/
structure ListsC (m bl base : Nat) (w : World) (vs : Nat → Value) (zs : Nat → List Cw) : Prop where
  cell : ∀ i, i < m → w.cell? ⟨bl, i, none⟩ = some (vs i)
  own : ∀ i, i < m → OwnR 32 base w (vs i) (zs i)
  ops : ∀ i, i < m → CopyR base w (zs i)
  i64 : ∀ i, i < m → ∀ c ∈ zs i, In64 c.e ∧ In64 c.n
  apart : ∀ i j, i < m → j < m → i ≠ j → (vs i).ownBlock = none ∨ (vs i).ownBlock ≠ (vs j).ownBlock
  table : ∀ i, i < m → (vs i).ownBlock ≠ some bl
  lens : ∀ i, i < m → (zs i).length ≤ 1000
  lops : ∀ i, i < m → ∀ c ∈ zs i, c.l.length ≤ 1000
  fit : ∀ i, i < m → FitC (zs i)
  ap : ApC ((List.range m).flatMap zs)

theorem ListsC.is {m bl base : Nat} {w : World} {vs : Nat → Value} {zs : Nat → List Cw} (H : ListsC m bl base w vs zs) {i : Nat} (hi : i < m) : IsC w (vs i) (zs i) := ⟨(H.own i hi).row, fun c hc => ⟨(H.ops i hi c hc).is, H.i64 i hi c hc⟩⟩

/-- The ops of the first lists. -/
def opsK (zs : Nat → List Cw) (k : Nat) : List Value := ((List.range k).flatMap zs).map Cw.v

theorem opsK_succ (zs : Nat → List Cw) (k : Nat) : opsK zs (k + 1) = opsK zs k ++ (zs k).map Cw.v := by
  simp [opsK, List.range_succ, List.flatMap_append]

theorem opsK_len (zs : Nat → List Cw) (m : Nat) (h : ∀ i, i < m → (zs i).length ≤ 1000) : ∀ k, k ≤ m → (opsK zs k).length ≤ 1000 * k
  | 0, _ => by simp [opsK]
  | k + 1, hk => by
    have := opsK_len zs m h k (by omega)
    have := h k (by omega)
    rw [opsK_succ, List.length_append, List.length_map]
    omega

/-- A copy of the commits z. -/
def Cop (b : Nat) (w : World) (v : Value) (z : List Cw) : Prop := ∃ rs, OwnR 32 b w v rs ∧ cvs rs = cvs z ∧ CopyR b w rs

theorem Cop.below {b : Nat} {w w' : World} {v : Value} {z : List Cw} (h : Cop b w v z) (hb : Below w.heap.size w w') : Cop b w' v z := by
  obtain ⟨rs, h1, h2, h3⟩ := h
  exact ⟨rs, h1.below hb, h2, h3.below hb⟩

theorem Cop.out {b : Nat} {w w' : World} {v : Value} {z : List Cw} {F : Nat → Prop} (h : Cop b w v z) (ho : Out F w w') (hF : ∀ i, F i → i < b) : Cop b w' v z := by
  obtain ⟨rs, h1, h2, h3⟩ := h
  exact ⟨rs, row_out h1 ho hF, h2, fun c hc => row_out (h3 c hc) ho hF⟩

theorem Cop.keepT {b e' : Nat} {w w' : World} {v : Value} {z : List Cw} (h : Cop b w v z) (k : KeepT e' w w') (n1 : 32 ≠ e') (n2 : 87 ≠ e') : Cop b w' v z := by
  obtain ⟨rs, h1, h2, h3⟩ := h
  exact ⟨rs, row_keepT h1 k n1, h2, fun c hc => row_keepT (h3 c hc) k n2⟩

theorem Cop.rebase {b b' : Nat} {w : World} {v : Value} {z : List Cw} (h : Cop b w v z) (hb : b' ≤ b) : Cop b' w v z := by
  obtain ⟨rs, h1, h2, h3⟩ := h
  exact ⟨rs, row_rebase h1 hb, h2, fun c hc => row_rebase (h3 c hc) hb⟩

/-- In the first loop: kc copies, the ops of ko lists. -/
structure L1 (m B : Nat) (w wr : World) (zs : Nat → List Cw) (kc ko : Nat) (xs : List Value) (ov : Value) : Prop where
  row : wr.ownsRow B 34 1 (.slice (some ⟨B, 0, none⟩) m m) m xs
  cop : ∀ j, j < kc → Cop (B + 1) wr (xs.getD j (.slice none 0 0)) (zs j)
  ops : OwnG one 1 30 (B + 1) wr ov (opsK zs ko)
  bel : Below B w wr
  lt : B < wr.heap.size

theorem L1.below {m B : Nat} {w wr w2 : World} {zs : Nat → List Cw} {kc ko : Nat} {xs : List Value} {ov : Value} (h : L1 m B w wr zs kc ko xs ov) (hb : Below wr.heap.size wr w2) : L1 m B w w2 zs kc ko xs ov :=
  ⟨ownrow_below h.row hb, fun j hj => (h.cop j hj).below hb, row_below h.ops hb, h.bel.trans (hb.mono (by have := h.lt; omega)), by have := h.lt; have := hb.size; omega⟩

theorem L1.put {m B : Nat} {w wr w1 w2 : World} {zs : Nat → List Cw} {k : Nat} {xs : List Value} {ov u : Value} (h : L1 m B w wr zs k k xs ov) (hk : k < m) (hu : Cop wr.heap.size w1 u (zs k)) (belu : Below wr.heap.size wr w1) (e : w1.setCell ⟨B, k, none⟩ u = w2) : L1 m B w w2 zs (k + 1) k (xs.set k u) ov := by
  have h1 := h.below belu
  have hst := h1.row.stored k u
  rw [e] at hst
  have hl : xs.length = m := by have := h.row.1; omega
  have ho : Out (fun g => g = B) w1 w2 := Out.of_grown hst.2 (fun g hg => by simpa using hg.symm)
  have hlt := h.lt
  refine ⟨hst.1, fun j hj => ?_, row_out h1.ops ho (fun i hi => by omega), ?_, ?_⟩
  · by_cases hjk : j = k
    · subst hjk
      have e : (xs.set j u).getD j (.slice none 0 0) = u := by simp [hl, hk]
      rw [e]
      exact (hu.out ho (fun i hi => by omega)).rebase (by omega)
    · have e : (xs.set k u).getD j (.slice none 0 0) = xs.getD j (.slice none 0 0) := by
        simp [List.getD, List.getElem?_set_ne (Ne.symm hjk)]
      rw [e]
      exact (h1.cop j (by omega)).out ho (fun i hi => by omega)
  · rw [← e]
    exact h1.bel.setCell (Nat.le_refl _) _
  · have := hst.2.size
    have := h1.lt
    omega

theorem L1.app {m B : Nat} {w w3 w4 : World} {zs : Nat → List Cw} {k : Nat} {xs : List Value} {ov v4 : Value} (h : L1 m B w w3 zs (k + 1) k xs ov) (ho : OwnG one 1 30 (B + 1) w4 v4 (opsK zs k ++ (zs k).map Cw.v)) (hb : Below (B + 1) w3 w4) (hg : w3.grownBy w4 ov.ownBlock) : L1 m B w w4 zs (k + 1) (k + 1) xs v4 := by
  have kt : KeepT 30 w3 w4 := KeepT.of_row h.ops hg
  have hs := hg.size
  have hlt := h.lt
  exact ⟨row_keepT h.row kt (by decide), fun j hj => (h.cop j hj).keepT kt (by decide) (by decide), by rw [opsK_succ]; exact ho, h.bel.trans (hb.mono (by omega)), by omega⟩

/-- In the second loop. -/
structure L2 (m bl base : Nat) (w wr : World) (vs us : Nat → Value) (zs : Nat → List Cw) (ov : Value) (k : Nat) : Prop where
  cell : ∀ i, i < m → wr.cell? ⟨bl, i, none⟩ = some (vs i)
  was : ∀ i, i < m → wr.cell? ⟨w.heap.size, i, none⟩ = some (us i)
  new : ∀ i, i < m → Cop (w.heap.size + 1) wr (us i) (zs i)
  done : ∀ i, i < k → i < m → OwnR 32 base wr (vs i) ((zs i).map ntC)
  left : ∀ i, k ≤ i → i < m → OwnR 32 base wr (vs i) (zs i)
  opl : ∀ i, i < m → CopyR base wr (zs i)
  ops : OwnG one 1 30 (w.heap.size + 1) wr ov (opsK zs m)
  out : Out (OwnsB m vs) w wr
  lt : w.heap.size < wr.heap.size

theorem l2_start {m bl base : Nat} {w wr : World} {vs : Nat → Value} {zs : Nat → List Cw} {xs : List Value} {ov : Value} (H : ListsC m bl base w vs zs) (h : L1 m w.heap.size w wr zs m m xs ov) : L2 m bl base w wr vs (fun j => xs.getD j (.slice none 0 0)) zs ov 0 := by
  have hl : xs.length = m := by have := h.row.1; omega
  exact ⟨fun i hi => (h.bel.cell (p := ⟨bl, i, none⟩) (World.block_lt_of_cell? _ _ (H.cell i hi))).trans (H.cell i hi),
    fun i hi => by rw [h.row.cellAt i (by omega)]; simp [List.getD, List.getElem?_eq_getElem (show i < xs.length by omega)],
    h.cop, fun i h0 => absurd h0 (by omega), fun i _ hi => (H.own i hi).below h.bel, fun i hi => (H.ops i hi).below h.bel, h.ops, Out.of_below h.bel, h.lt⟩

theorem L2.below {m bl base : Nat} {w wr w2 : World} {vs us : Nat → Value} {zs : Nat → List Cw} {ov : Value} {k : Nat} (h : L2 m bl base w wr vs us zs ov k) (hb : Below wr.heap.size wr w2) : L2 m bl base w w2 vs us zs ov k :=
  ⟨fun i hi => (hb.cell (p := ⟨bl, i, none⟩) (World.block_lt_of_cell? _ _ (h.cell i hi))).trans (h.cell i hi), fun i hi => (hb.cell (p := ⟨w.heap.size, i, none⟩) h.lt).trans (h.was i hi), fun i hi => (h.new i hi).below hb, fun i h1 hi => (h.done i h1 hi).below hb, fun i h1 hi => (h.left i h1 hi).below hb, fun i hi => (h.opl i hi).below hb, row_below h.ops hb,
    h.out.trans (Out.of_below (F := fun _ => False) hb) (fun g hg => hg.elim), by have := h.lt; have := hb.size; omega⟩

theorem L2.over {m bl base : Nat} {w wr w2 : World} {vs us : Nat → Value} {zs : Nat → List Cw} {ov : Value} {k : Nat} (H : ListsC m bl base w vs zs) (h : L2 m bl base w wr vs us zs ov k) (hk : k < m)
    (ho : OwnR 32 base w2 (vs k) ((zs k).map ntC)) (hg : wr.grownBy w2 (vs k).ownBlock) : L2 m bl base w w2 vs us zs ov (k + 1) := by
  have hvk : ∀ b, (vs k).ownBlock = some b → base ≤ b ∧ b < w.heap.size := World.ownsRow.lt (H.own k hk)
  have kt : KeepT 32 wr w2 := KeepT.of_row (h.left k (Nat.le_refl _) hk) hg
  have oF : Out (fun g => (vs k).ownBlock = some g) wr w2 := Out.of_grown hg (fun g e => e)
  have lo : ∀ i, (vs k).ownBlock = some i → i < w.heap.size + 1 := fun i e => by have := hvk i e; omega
  have other : ∀ i, i < m → i ≠ k → (vs i).ownBlock = none ∨ (vs i).ownBlock ≠ (vs k).ownBlock := fun i hi hne => H.apart i k hi hk hne
  refine ⟨fun i hi => hg.cell (h.cell i hi) (fun e => H.table k hk e.symm), fun i hi => hg.cell (h.was i hi) (fun e => by have := hvk _ e.symm; simp at this), fun i hi => (h.new i hi).out oF lo, fun i h1 hi => ?_, fun i h1 hi => World.ownsRow.kept (h.left i (by omega) hi) hg (other i hi (by omega)), fun i hi => (h.opl i hi).keepT kt, row_out h.ops oF lo, ?_, ?_⟩
  · by_cases e : i = k
    · subst e; exact ho
    · exact World.ownsRow.kept (h.done i (by omega) hi) hg (other i hi e)
  · exact h.out.trans oF (fun g e => .inl ⟨k, hk, e⟩)
  · have := hg.size
    have := h.lt
    omega

/-- A block that one of the lists, or of their ops, has. -/
def OwnsC (m : Nat) (vs : Nat → Value) (zs : Nat → List Cw) (g : Nat) : Prop := OwnsB m vs g ∨ ∃ i, i < m ∧ ∃ c ∈ zs i, c.v.ownBlock = some g

theorem all_at {m : Nat} {zs : Nat → List Cw} {i : Nat} (h : i < (opsK zs m).length) : ∃ c a, a < m ∧ c ∈ zs a ∧ ((List.range m).flatMap zs)[i]? = some c ∧ (opsK zs m).getD i (.slice none 0 0) = c.v ∧ (((List.range m).flatMap zs).map Cw.l).getD i [] = c.l := by
  have hl : i < ((List.range m).flatMap zs).length := by simpa [opsK] using h
  have hc : ((List.range m).flatMap zs)[i]? = some ((List.range m).flatMap zs)[i] := List.getElem?_eq_getElem hl
  obtain ⟨a, ha, hm⟩ := List.mem_flatMap.1 (List.mem_of_getElem? hc)
  exact ⟨_, a, List.mem_range.1 ha, hm, hc, by unfold opsK; rw [List.getD_eq_getElem?_getD, List.getElem?_map, hc]; rfl, by rw [List.getD_eq_getElem?_getD, List.getElem?_map, hc]; rfl⟩

theorem lists_ops {m bl base : Nat} {w wr : World} {vs us : Nat → Value} {zs : Nat → List Cw} {bo cap n : Nat} {k : Nat} (H : ListsC m bl base w vs zs) (h : L2 m bl base w wr vs us zs (.slice (some ⟨bo, 0, none⟩) n cap) k) (hn : (opsK zs m).length = n) (hbo : w.heap.size < bo) :
    ListsO n bo base wr (fun i => (opsK zs m).getD i (.slice none 0 0)) (fun i => (((List.range m).flatMap zs).map Cw.l).getD i []) := by
  subst hn
  have hrow := h.ops.row
  refine ⟨fun i hi => ?_, fun i hi => ?_, fun i j hi hj hne => ?_, fun i hi => ?_, fun i hi => ?_, fun i hi => ?_⟩
  · rcases hrow with ⟨e, _⟩ | ⟨ad, c2, e, _, _, hc⟩
    · simp at e
    · simp only [Value.slice.injEq, Option.some.injEq] at e
      obtain ⟨rfl, _⟩ := e
      have := hc i ((opsK zs m)[i]) (by rw [gcells_one]; exact List.getElem?_eq_getElem hi)
      rw [add_at] at this
      rw [List.getD_eq_getElem?_getD, List.getElem?_eq_getElem hi]
      simpa using this
  · obtain ⟨c, a, ha, hm, _, e1, e2⟩ := all_at hi
    rw [e1, e2]
    exact h.opl a ha c hm
  · obtain ⟨c, a, ha, hm, hc, e1, _⟩ := all_at hi
    obtain ⟨d, b, hb, hm', hd, f1, _⟩ := all_at hj
    rw [e1, f1]
    exact H.ap i j c d hne hc hd
  · obtain ⟨c, a, ha, hm, _, e1, e2⟩ := all_at hi
    rw [e1]
    intro e
    have := (World.ownsRow.lt (H.ops a ha c hm) bo e).2
    omega
  · obtain ⟨c, a, ha, hm, _, e1, e2⟩ := all_at hi
    rw [e2]
    exact H.lops a ha c hm
  · obtain ⟨c, a, ha, hm, _, e1, e2⟩ := all_at hi
    rw [e2]
    exact (H.fit a ha c hm).1

end Go.Proofs.Ytimmohpnlieefaa
