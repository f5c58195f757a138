/- Texts of one layer, one behind the other. -/
import Derived.Test.YtkpnkknolobioaaGreatG15
import Derived.Deep.RegionHeld3
import Derived.Test.YtkpnkknolobioaaGreatG8
import Derived.Test.YtkpnkknolobioaaGreatG10
import Derived.SizedLaws
import Derived.Lib.SmallJoins
import Derived.Deep.Slices
import Derived.Test.YtkpnkknolobioaaGreatG3
/- The contract of ApartCommits. -/
namespace Go.Proofs.YtkpnkknolobioaaGreat
open Go.RowKit
set_option linter.unusedVariables false

/-- What the lists are, ahead of ApartCommits. -/
structure ListsC (m bl base : Nat) (w : World) (vs : Nat → Value) (zs : Nat → List Cw) : Prop where
  cell : ∀ i, i < m → w.cell? ⟨bl, i, none⟩ = some (vs i)
  own : ∀ i, i < m → OwnR 59 base w (vs i) (zs i)
  ops : ∀ i, i < m → CopyR base w (zs i)
  i64 : ∀ i, i < m → ∀ c ∈ zs i, In64 c.e ∧ In64 c.n
  apart : ∀ i j, i < m → j < m → i ≠ j → (vs i).ownBlock = none ∨ (vs i).ownBlock ≠ (vs j).ownBlock
  table : ∀ i, i < m → (vs i).ownBlock ≠ some bl
  lens : ∀ i, i < m → (zs i).length ≤ 1000
  lops : ∀ i, i < m → ∀ c ∈ zs i, c.l.length ≤ 1000
  fit : ∀ i, i < m → FitC (zs i)
  ap : ApC ((List.range m).flatMap zs)

theorem ListsC.is {m bl base : Nat} {w : World} {vs : Nat → Value} {zs : Nat → List Cw} (H : ListsC m bl base w vs zs) {i : Nat} (hi : i < m) : IsC w (vs i) (zs i) := ⟨(H.own i hi).row, fun c hc => ⟨(H.ops i hi c hc).is, H.i64 i hi c hc⟩⟩

/-- The ops of the first lists. -/
def opsK (zs : Nat → List Cw) (k : Nat) : List Value := ((List.range k).flatMap zs).map Cw.v

theorem opsK_succ (zs : Nat → List Cw) (k : Nat) : opsK zs (k + 1) = opsK zs k ++ (zs k).map Cw.v := by
  simp [opsK, List.range_succ, List.flatMap_append]

theorem opsK_len (zs : Nat → List Cw) (m : Nat) (h : ∀ i, i < m → (zs i).length ≤ 1000) : ∀ k, k ≤ m → (opsK zs k).length ≤ 1000 * k
  | 0, _ => by simp [opsK]
  | k + 1, hk => by
    have := opsK_len zs m h k (by omega)
    have := h k (by omega)
    rw [opsK_succ, List.length_append, List.length_map]
    omega

/-- A copy of the commits z. -/
def Cop (b : Nat) (w : World) (v : Value) (z : List Cw) : Prop := ∃ rs, OwnR 59 b w v rs ∧ cvs rs = cvs z ∧ CopyR b w rs

theorem Cop.below {b : Nat} {w w' : World} {v : Value} {z : List Cw} (h : Cop b w v z) (hb : Below w.heap.size w w') : Cop b w' v z := by
  obtain ⟨rs, h1, h2, h3⟩ := h
  exact ⟨rs, h1.below hb, h2, h3.below hb⟩

theorem Cop.out {b : Nat} {w w' : World} {v : Value} {z : List Cw} {F : Nat → Prop} (h : Cop b w v z) (ho : Out F w w') (hF : ∀ i, F i → i < b) : Cop b w' v z := by
  obtain ⟨rs, h1, h2, h3⟩ := h
  exact ⟨rs, row_out h1 ho hF, h2, fun c hc => row_out (h3 c hc) ho hF⟩

theorem Cop.keepT {b e' : Nat} {w w' : World} {v : Value} {z : List Cw} (h : Cop b w v z) (k : KeepT e' w w') (n1 : 59 ≠ e') (n2 : 93 ≠ e') : Cop b w' v z := by
  obtain ⟨rs, h1, h2, h3⟩ := h
  exact ⟨rs, row_keepT h1 k n1, h2, fun c hc => row_keepT (h3 c hc) k n2⟩

theorem Cop.rebase {b b' : Nat} {w : World} {v : Value} {z : List Cw} (h : Cop b w v z) (hb : b' ≤ b) : Cop b' w v z := by
  obtain ⟨rs, h1, h2, h3⟩ := h
  exact ⟨rs, row_rebase h1 hb, h2, fun c hc => row_rebase (h3 c hc) hb⟩

/-- In the first loop: kc copies, the ops of ko lists. -/
structure L1 (m B : Nat) (w wr : World) (zs : Nat → List Cw) (kc ko : Nat) (xs : List Value) (ov : Value) : Prop where
  row : wr.ownsRow B 23 1 (.slice (some ⟨B, 0, none⟩) m m) m xs
  cop : ∀ j, j < kc → Cop (B + 1) wr (xs.getD j (.slice none 0 0)) (zs j)
  ops : OwnG one 1 57 (B + 1) wr ov (opsK zs ko)
  bel : Below B w wr
  lt : B < wr.heap.size

theorem L1.below {m B : Nat} {w wr w2 : World} {zs : Nat → List Cw} {kc ko : Nat} {xs : List Value} {ov : Value} (h : L1 m B w wr zs kc ko xs ov) (hb : Below wr.heap.size wr w2) : L1 m B w w2 zs kc ko xs ov :=
  ⟨ownrow_below h.row hb, fun j hj => (h.cop j hj).below hb, row_below h.ops hb, h.bel.trans (hb.mono (by have := h.lt; omega)), by have := h.lt; have := hb.size; omega⟩

theorem L1.put {m B : Nat} {w wr w1 w2 : World} {zs : Nat → List Cw} {k : Nat} {xs : List Value} {ov u : Value} (h : L1 m B w wr zs k k xs ov) (hk : k < m) (hu : Cop wr.heap.size w1 u (zs k)) (belu : Below wr.heap.size wr w1) (e : w1.setCell ⟨B, k, none⟩ u = w2) : L1 m B w w2 zs (k + 1) k (xs.set k u) ov := by
  have h1 := h.below belu
  have hst := h1.row.stored k u
  rw [e] at hst
  have hl : xs.length = m := by have := h.row.1; omega
  have ho : Out (fun g => g = B) w1 w2 := Out.of_grown hst.2 (fun g hg => by simpa using hg.symm)
  have hlt := h.lt
  refine ⟨hst.1, fun j hj => ?_, row_out h1.ops ho (fun i hi => by omega), ?_, ?_⟩
  · by_cases hjk : j = k
    · subst hjk
      have e : (xs.set j u).getD j (.slice none 0 0) = u := by simp [hl, hk]
      rw [e]
      exact (hu.out ho (fun i hi => by omega)).rebase (by omega)
    · have e : (xs.set k u).getD j (.slice none 0 0) = xs.getD j (.slice none 0 0) := by
        simp [List.getD, List.getElem?_set_ne (Ne.symm hjk)]
      rw [e]
      exact (h1.cop j (by omega)).out ho (fun i hi => by omega)
  · rw [← e]
    exact h1.bel.setCell (Nat.le_refl _) _
  · have := hst.2.size
    have := h1.lt
    omega

theorem L1.app {m B : Nat} {w w3 w4 : World} {zs : Nat → List Cw} {k : Nat} {xs : List Value} {ov v4 : Value} (h : L1 m B w w3 zs (k + 1) k xs ov) (ho : OwnG one 1 57 (B + 1) w4 v4 (opsK zs k ++ (zs k).map Cw.v)) (hb : Below (B + 1) w3 w4) (hg : w3.grownBy w4 ov.ownBlock) : L1 m B w w4 zs (k + 1) (k + 1) xs v4 := by
  have kt : KeepT 57 w3 w4 := KeepT.of_row h.ops hg
  have hs := hg.size
  have hlt := h.lt
  exact ⟨row_keepT h.row kt (by decide), fun j hj => (h.cop j hj).keepT kt (by decide) (by decide), by rw [opsK_succ]; exact ho, h.bel.trans (hb.mono (by omega)), by omega⟩

/-- In the second loop. -/
structure L2 (m bl base : Nat) (w wr : World) (vs us : Nat → Value) (zs : Nat → List Cw) (ov : Value) (k : Nat) : Prop where
  cell : ∀ i, i < m → wr.cell? ⟨bl, i, none⟩ = some (vs i)
  was : ∀ i, i < m → wr.cell? ⟨w.heap.size, i, none⟩ = some (us i)
  new : ∀ i, i < m → Cop (w.heap.size + 1) wr (us i) (zs i)
  done : ∀ i, i < k → i < m → OwnR 59 base wr (vs i) ((zs i).map ntC)
  left : ∀ i, k ≤ i → i < m → OwnR 59 base wr (vs i) (zs i)
  opl : ∀ i, i < m → CopyR base wr (zs i)
  ops : OwnG one 1 57 (w.heap.size + 1) wr ov (opsK zs m)
  out : Out (OwnsB m vs) w wr
  lt : w.heap.size < wr.heap.size

theorem l2_start {m bl base : Nat} {w wr : World} {vs : Nat → Value} {zs : Nat → List Cw} {xs : List Value} {ov : Value} (H : ListsC m bl base w vs zs) (h : L1 m w.heap.size w wr zs m m xs ov) : L2 m bl base w wr vs (fun j => xs.getD j (.slice none 0 0)) zs ov 0 := by
  have hl : xs.length = m := by have := h.row.1; omega
  exact ⟨fun i hi => (h.bel.cell (p := ⟨bl, i, none⟩) (World.block_lt_of_cell? _ _ (H.cell i hi))).trans (H.cell i hi),
    fun i hi => by rw [h.row.cellAt i (by omega)]; simp [List.getD, List.getElem?_eq_getElem (show i < xs.length by omega)],
    h.cop, fun i h0 => absurd h0 (by omega), fun i _ hi => (H.own i hi).below h.bel, fun i hi => (H.ops i hi).below h.bel, h.ops, Out.of_below h.bel, h.lt⟩

theorem L2.below {m bl base : Nat} {w wr w2 : World} {vs us : Nat → Value} {zs : Nat → List Cw} {ov : Value} {k : Nat} (h : L2 m bl base w wr vs us zs ov k) (hb : Below wr.heap.size wr w2) : L2 m bl base w w2 vs us zs ov k :=
  ⟨fun i hi => (hb.cell (p := ⟨bl, i, none⟩) (World.block_lt_of_cell? _ _ (h.cell i hi))).trans (h.cell i hi), fun i hi => (hb.cell (p := ⟨w.heap.size, i, none⟩) h.lt).trans (h.was i hi), fun i hi => (h.new i hi).below hb, fun i h1 hi => (h.done i h1 hi).below hb, fun i h1 hi => (h.left i h1 hi).below hb, fun i hi => (h.opl i hi).below hb, row_below h.ops hb,
    h.out.trans (Out.of_below (F := fun _ => False) hb) (fun g hg => hg.elim), by have := h.lt; have := hb.size; omega⟩

theorem L2.over {m bl base : Nat} {w wr w2 : World} {vs us : Nat → Value} {zs : Nat → List Cw} {ov : Value} {k : Nat} (H : ListsC m bl base w vs zs) (h : L2 m bl base w wr vs us zs ov k) (hk : k < m)
    (ho : OwnR 59 base w2 (vs k) ((zs k).map ntC)) (hg : wr.grownBy w2 (vs k).ownBlock) : L2 m bl base w w2 vs us zs ov (k + 1) := by
  have hvk : ∀ b, (vs k).ownBlock = some b → base ≤ b ∧ b < w.heap.size := World.ownsRow.lt (H.own k hk)
  have kt : KeepT 59 wr w2 := KeepT.of_row (h.left k (Nat.le_refl _) hk) hg
  have oF : Out (fun g => (vs k).ownBlock = some g) wr w2 := Out.of_grown hg (fun g e => e)
  have lo : ∀ i, (vs k).ownBlock = some i → i < w.heap.size + 1 := fun i e => by have := hvk i e; omega
  have other : ∀ i, i < m → i ≠ k → (vs i).ownBlock = none ∨ (vs i).ownBlock ≠ (vs k).ownBlock := fun i hi hne => H.apart i k hi hk hne
  refine ⟨fun i hi => hg.cell (h.cell i hi) (fun e => H.table k hk e.symm), fun i hi => hg.cell (h.was i hi) (fun e => by have := hvk _ e.symm; simp at this), fun i hi => (h.new i hi).out oF lo, fun i h1 hi => ?_, fun i h1 hi => World.ownsRow.kept (h.left i (by omega) hi) hg (other i hi (by omega)), fun i hi => (h.opl i hi).keepT kt, row_out h.ops oF lo, ?_, ?_⟩
  · by_cases e : i = k
    · subst e; exact ho
    · exact World.ownsRow.kept (h.done i (by omega) hi) hg (other i hi e)
  · exact h.out.trans oF (fun g e => .inl ⟨k, hk, e⟩)
  · have := hg.size
    have := h.lt
    omega

/-- A block that one of the lists, or of their ops, has. -/
def OwnsC (m : Nat) (vs : Nat → Value) (zs : Nat → List Cw) (g : Nat) : Prop := OwnsB m vs g ∨ ∃ i, i < m ∧ ∃ c ∈ zs i, c.v.ownBlock = some g

theorem all_at {m : Nat} {zs : Nat → List Cw} {i : Nat} (h : i < (opsK zs m).length) : ∃ c a, a < m ∧ c ∈ zs a ∧ ((List.range m).flatMap zs)[i]? = some c ∧ (opsK zs m).getD i (.slice none 0 0) = c.v ∧ (((List.range m).flatMap zs).map Cw.l).getD i [] = c.l := by
  have hl : i < ((List.range m).flatMap zs).length := by simpa [opsK] using h
  have hc : ((List.range m).flatMap zs)[i]? = some ((List.range m).flatMap zs)[i] := List.getElem?_eq_getElem hl
  obtain ⟨a, ha, hm⟩ := List.mem_flatMap.1 (List.mem_of_getElem? hc)
  exact ⟨_, a, List.mem_range.1 ha, hm, hc, by unfold opsK; rw [List.getD_eq_getElem?_getD, List.getElem?_map, hc]; rfl, by rw [List.getD_eq_getElem?_getD, List.getElem?_map, hc]; rfl⟩

theorem lists_ops {m bl base : Nat} {w wr : World} {vs us : Nat → Value} {zs : Nat → List Cw} {bo cap n : Nat} {k : Nat} (H : ListsC m bl base w vs zs) (h : L2 m bl base w wr vs us zs (.slice (some ⟨bo, 0, none⟩) n cap) k) (hn : (opsK zs m).length = n) (hbo : w.heap.size < bo) :
    ListsO n bo base wr (fun i => (opsK zs m).getD i (.slice none 0 0)) (fun i => (((List.range m).flatMap zs).map Cw.l).getD i []) := by
  subst hn
  have hrow := h.ops.row
  refine ⟨fun i hi => ?_, fun i hi => ?_, fun i j hi hj hne => ?_, fun i hi => ?_, fun i hi => ?_, fun i hi => ?_⟩
  · rcases hrow with ⟨e, _⟩ | ⟨ad, c2, e, _, _, hc⟩
    · simp at e
    · simp only [Value.slice.injEq, Option.some.injEq] at e
      obtain ⟨rfl, _⟩ := e
      have := hc i ((opsK zs m)[i]) (by rw [gcells_one]; exact List.getElem?_eq_getElem hi)
      rw [add_at] at this
      rw [List.getD_eq_getElem?_getD, List.getElem?_eq_getElem hi]
      simpa using this
  · obtain ⟨c, a, ha, hm, _, e1, e2⟩ := all_at hi
    rw [e1, e2]
    exact h.opl a ha c hm
  · obtain ⟨c, a, ha, hm, hc, e1, _⟩ := all_at hi
    obtain ⟨d, b, hb, hm', hd, f1, _⟩ := all_at hj
    rw [e1, f1]
    exact H.ap i j c d hne hc hd
  · obtain ⟨c, a, ha, hm, _, e1, e2⟩ := all_at hi
    rw [e1]
    intro e
    have := (World.ownsRow.lt (H.ops a ha c hm) bo e).2
    omega
  · obtain ⟨c, a, ha, hm, _, e1, e2⟩ := all_at hi
    rw [e2]
    exact Nat.le_trans (H.lops a ha c hm) (by omega)
  · obtain ⟨c, a, ha, hm, _, e1, e2⟩ := all_at hi
    rw [e2]
    exact (H.fit a ha c hm).1

end Go.Proofs.YtkpnkknolobioaaGreat

/- The walk of ApartCommits. -/
namespace Go.Proofs.YtkpnkknolobioaaGreat
open Go.RowKit
set_option linter.unusedVariables false

theorem Tryz.info23 : (Tryz.prog.info? 23).map (fun i => (i.zero, i.size, i.bytes)) = some (some (.slice none 0 0), 1, 24) := by kernel_rfl

end Go.Proofs.YtkpnkknolobioaaGreat

/- LentCommits: the lists of ops lie apart; three lists of commits, apart. -/
namespace Go.Proofs.YtkpnkknolobioaaGreat
open Go.RowKit
set_option linter.unusedVariables false

theorem LentV.ownO {base : Nat} {w : World} {v : Value} {l : List Bm.Ov} (h : LentV base w v l) : OwnO 93 base w v l := by
  obtain ⟨g, cap, rfl, hc, hm, ho⟩ := h
  have ho' : w.ownsRow base 93 3 (.slice (some ⟨g, 0, none⟩) (l.length + 3) cap) (l.length + 3) (ocells (l ++ [behind, behind, behind])) := by
    have := ho
    unfold OwnO at this
    rw [List.length_append] at this
    exact this
  have := own_frontO ho' l.length (by omega)
  rw [← ocells_take, List.take_left] at this
  exact this

set_option maxHeartbeats 1000000 in
theorem lentCs_ap (vl : Value) (r : List Cw) (w : World) (h : IsC w vl r) (hf : FitC r) (hl : r.length ≤ 1000) :
    Calls Tryz.prog 14 #[vl] w fun E w' => ∃ v rs, E = .returned v ∧ OwnR 59 w.heap.size w' v (rs ++ [behC, behC, behC]) ∧ cvs rs = cvs r ∧ LentR w.heap.size w' rs ∧ ApC rs ∧ Below w.heap.size w w' := by
  obtain ⟨ao, cap, hvl, _, _⟩ := h.1.shape
  have hcell : 0 < r.length → ∃ b1 o1 c1, vl = .slice (some ⟨b1, o1, none⟩) r.length c1 ∧ b1 < w.heap.size ∧ ∀ i c, r[i]? = some c → w.cell? ⟨b1, o1 + i * 3, none⟩ = some (.int .i64 c.e) ∧ w.cell? ⟨b1, o1 + i * 3 + 1, none⟩ = some (.int .i64 c.n) ∧ w.cell? ⟨b1, o1 + i * 3 + 2, none⟩ = some c.v := by
    intro hp
    obtain ⟨b1, o1, c1, hv, _, _, hB, hc⟩ := h.1.full hp
    exact ⟨b1, o1, c1, hv, hB, hc⟩
  subst hvl
  have HIN := hide h.2
  have HFIT := hide hf
  have HC := hide hcell
  generalize hn : r.length = n at *
  have HN := hide hn
  clear h hcell hf hn
  go_enter Tryz.func14, Tryz.ntmps14
  go_wp2
  go_loopw [3, 4] (fun ov iv wr => ∃ (k : Nat) (rs : List Cw), k ≤ n ∧ iv = .int .i64 k ∧ rs.length = k ∧ Hid (OwnR 59 w.heap.size wr ov rs ∧ cvs rs = cvs (r.take k) ∧ LentR w.heap.size wr rs ∧ ApC rs) ∧ Below w.heap.size w wr) (fun _ iv _ => n - (intOf iv).toNat)
  case atStart => exact ⟨0, [], by omega, rfl, rfl, ⟨OwnR.nil _ _ _, rfl, fun c hc => by simp at hc, fun i j c d _ hc => by simp at hc⟩, Below.refl _ _⟩
  case round =>
    obtain ⟨k, rs, hk, rfl, hrl, HT, bel⟩ := hrel
    have sz := bel.size
    by_cases hlt : k < n
    · obtain ⟨b1, o1, c1, hvx, hB, hcell⟩ := HC.out (by have := HN.out; omega)
      simp only [Value.slice.injEq, true_and] at hvx
      obtain ⟨rfl, rfl⟩ := hvx
      obtain ⟨c, hc⟩ : ∃ c, r[k]? = some c := ⟨r[k]'(by have := HN.out; omega), by rw [List.getElem?_eq_getElem]⟩
      obtain ⟨e0, e1, e2⟩ := hcell k c hc
      have d0 := (bel.cell (p := ⟨b1, o1 + k * 3, none⟩) hB).trans e0
      have d1 := (bel.cell (p := ⟨b1, o1 + k * 3 + 1, none⟩) hB).trans e1
      have d2 := (bel.cell (p := ⟨b1, o1 + k * 3 + 2, none⟩) hB).trans e2
      have hmem := List.mem_of_getElem? hc
      obtain ⟨i1, _, _⟩ := HIN.out c hmem
      have i2 := i1.below bel
      obtain ⟨hfc, hlc⟩ := HFIT.out c hmem
      have HCK := hide hc
      have hlt' : (k : Int) < n := by omega
      clear hc hmem i1 e0 e1 e2 hcell
      go_wp2_with fail
      refine (lentC_any c.e c.n _ c.l _ i2 hlc).mono ?_
      rintro E w2 ⟨v2, rfl, own2, bel2⟩
      unfold cmv
      have sz2 := bel2.size
      obtain ⟨ah, ch, hv2, _, _⟩ := own2.is.shape
      subst hv2
      obtain ⟨w3, hw3, sz3, bel3, own3⟩ := coms_step 59 w2 #[.int .i64 c.e, .int .i64 c.n, .slice ah c.l.length ch] 1 [⟨c.e, c.n, .slice ah c.l.length ch, c.l⟩] rfl rfl (by simp [maxLen])
      obtain ⟨hO, hE, hP, hA⟩ := HT.out
      have HA2 : Hid (ApC (rs ++ [⟨c.e, c.n, .slice ah c.l.length ch, c.l⟩])) := hide (apc_snoc (N := wr.heap.size) hA (fun d hd b hb => ((hP d hd).ownO.block b hb).2) (fun b hb => (own2.ownO.block b hb).1))
      have bel23 : Below wr.heap.size wr w3 := bel2.trans (bel3.mono (by omega))
      have hO3 := hO.below bel23
      have hP3 := hP.below bel23
      have own23 := (own2.below bel3).rebase (base' := w.heap.size) (by omega)
      have hlk : (rs.length + [(⟨c.e, c.n, .slice ah c.l.length ch, c.l⟩ : Cw)].length) * 40 ≤ 140737488355328 := by rw [List.length_singleton]; omega
      have HE := hide hE
      have HP := hide hP3
      have bel03 : Below w.heap.size w w3 := bel.trans (bel23.mono (by omega))
      clear HT hO hP hP3 hE hA bel2 bel3 bel23 own2 bel d0 d1 d2 i2
      go_wp2_with (at_builtin; refine wpList_append_coms rfl (.tmp 12) (.tmp 18) 23 rfl 59 w.heap.size Tryz.underlying23 Tryz.info59 _ rs rfl hO3 _ _ rfl own3.row (by intro c hc; rw [List.mem_singleton.1 hc]; rfl) hlk (by omega) ?_)
      intro v4 w4 own4 bel4 kp4
      have HT2 : Hid (OwnR 59 w.heap.size w4 v4 (rs ++ [⟨c.e, c.n, .slice ah c.l.length ch, c.l⟩]) ∧ cvs (rs ++ [⟨c.e, c.n, .slice ah c.l.length ch, c.l⟩]) = cvs (r.take (k + 1)) ∧ LentR w.heap.size w4 (rs ++ [⟨c.e, c.n, .slice ah c.l.length ch, c.l⟩]) ∧ ApC (rs ++ [⟨c.e, c.n, .slice ah c.l.length ch, c.l⟩])) :=
        ⟨own4, cvs_snoc HE.out HCK.out rfl, (HP.out.keepT kp4).snoc (own23.keepT kp4 (by decide)), HA2.out⟩
      have bel04 := bel03.trans bel4
      clear own4 kp4 own23 own3 hO3 HE HP HA2 bel03 bel4 hlk
      go_wp2
      go_roundw
      case rel => exact ⟨k + 1, _, by omega, by go_num, by rw [List.length_append, hrl]; rfl, HT2, bel04⟩
      case measure => simp [intOf]; omega
    · have hlt' : ¬ (k : Int) < n := by omega
      have HE : Hid (cvs rs = cvs r) := hide (by rw [HT.out.2.1, List.take_of_length_le (by have := HN.out; omega)])
      have HS := HT.out.1
      have HAP := hide HT.out.2.2.2
      have hS0 : Hid (OwnR 59 w.heap.size wr _ (rs ++ List.replicate 0 behC) ∧ LentR w.heap.size wr rs) := ⟨by simpa using HS, HT.out.2.2.1⟩
      clear HT HS
      go_wp2
      go_loopw [3, 5] (fun ov iv wq => ∃ (j : Nat), j ≤ 3 ∧ iv = .int .i64 j ∧ Hid (OwnR 59 w.heap.size wq ov (rs ++ List.replicate j behC) ∧ LentR w.heap.size wq rs) ∧ Below w.heap.size w wq) (fun _ iv _ => 3 - (intOf iv).toNat)
      case atStart => exact ⟨0, by omega, rfl, hS0, bel⟩
      case round =>
        obtain ⟨j, hj, rfl, HJ, belJ⟩ := hrel
        have szJ := belJ.size
        by_cases hlj : j < 3
        · have hlj' : (j : Int) < 3 := by omega
          obtain ⟨w3, hw3, sz3, bel3, own3⟩ := coms_step 59 wr #[.int .i64 (-7), .int .i64 0, .slice none 0 0] 1 [behC] rfl rfl (by simp [maxLen])
          have hO3 := HJ.out.1.below bel3
          have HP := hide (HJ.out.2.below bel3)
          have hlk : ((rs ++ List.replicate j behC).length + [behC].length) * 40 ≤ 140737488355328 := by rw [List.length_append, List.length_replicate, List.length_singleton]; omega
          have bel03 : Below w.heap.size w w3 := belJ.trans (bel3.mono (by omega))
          clear HJ belJ bel3 hS0
          go_wp2_with (at_builtin; refine wpList_append_coms rfl (.tmp 24) (.tmp 26) 23 rfl 59 w.heap.size Tryz.underlying23 Tryz.info59 _ _ rfl hO3 _ [behC] rfl own3.row (by intro c hc; rw [List.mem_singleton.1 hc]; rfl) hlk (by omega) ?_)
          intro v4 w4 own4 bel4 kp4
          have HT2 : Hid (OwnR 59 w.heap.size w4 v4 (rs ++ List.replicate (j + 1) behC) ∧ LentR w.heap.size w4 rs) := ⟨by rw [List.replicate_succ']; exact own4, HP.out.keepT kp4⟩
          have bel04 := bel03.trans bel4
          clear own4 kp4 own3 hO3 HP bel03 bel4 hlk
          go_wp2
          go_roundw
          case rel => exact ⟨j + 1, by omega, by go_num, HT2, bel04⟩
          case measure => simp [intOf]; omega
        · have hlj' : ¬ (j : Int) < 3 := by omega
          have hj3 : j = 3 := by omega
          subst hj3
          clear hS0
          go_wp2
          go_ret
          exact ⟨_, rfl, rs, HJ.out.1, HE.out, HJ.out.2, HAP.out, belJ⟩

/-- A list of commits of the statement's own. -/
structure Oc (base : Nat) (w : World) (v : Value) (r : List Cw) : Prop where
  c : OwnR 59 base w v r
  o : CopyR base w r
  i : ∀ c ∈ r, In64 c.e ∧ In64 c.n
  ap : ApC r
  len : r.length ≤ 1000
  ops : ∀ c ∈ r, c.l.length ≤ 1000
  fit : FitC r

theorem Oc.below {base : Nat} {w w' : World} {v : Value} {r : List Cw} (h : Oc base w v r) (hb : Below w.heap.size w w') : Oc base w' v r := ⟨h.c.below hb, h.o.below hb, h.i, h.ap, h.len, h.ops, h.fit⟩
theorem Oc.rebase {base base' : Nat} {w : World} {v : Value} {r : List Cw} (h : Oc base w v r) (hb : base' ≤ base) : Oc base' w v r := ⟨h.c.rebase hb, fun c hc => (h.o c hc).rebase hb, h.i, h.ap, h.len, h.ops, h.fit⟩

/-- Its blocks end ahead of s. -/
def Oc.Lt (v : Value) (r : List Cw) (s : Nat) : Prop := (∀ b, v.ownBlock = some b → b < s) ∧ ∀ c ∈ r, ∀ b, c.v.ownBlock = some b → b < s

theorem Oc.lt {base : Nat} {w : World} {v : Value} {r : List Cw} (h : Oc base w v r) : Oc.Lt v r w.heap.size := ⟨fun b hb => (World.ownsRow.lt h.c b hb).2, fun c hc b hb => (World.ownsRow.lt (h.o c hc) b hb).2⟩

/-- 'v[:k]' of a row of commits of one's own. -/
theorem ownR_cut {base : Nat} {w : World} {v : Value} {l : List Cw} (h : OwnR 59 base w v l) (k : Nat) (hk : k ≤ l.length) (h0 : 0 < l.length) :
    ∃ vs, (∀ wx, (Instr.slice 23 v none (some (.int .i64 k)) none).run Tryz.prog wx = .ok vs wx) ∧ OwnR 59 base w vs (l.take k) ∧ vs.ownBlock = v.ownBlock ∧ ∃ a c, vs = .slice a k c := by
  rcases h.2 with ⟨_, hn⟩ | ⟨g, cap, cur, hv, _, _, hc, hm, _⟩
  · omega
  · subst hv
    refine ⟨.slice (some ⟨g, 0, none⟩) k cap, fun wx => ?_, ?_, rfl, _, _, rfl⟩
    · rw [run_slice_h wx 23 (some ⟨g, 0, none⟩) l.length cap Tryz.elemC .i64 _ (by omega) (by omega), Tryz.sizeC]
      simp only [Result.andThen, sliced]
      simp [Addr.add]
    · unfold OwnR at h ⊢
      rw [List.length_take, Nat.min_eq_left hk, ccells_take]
      exact own_cut h k hk

def tri17 {α : Type} (a b c : α) : Nat → α
  | 0 => a
  | 1 => b
  | _ => c

theorem ap_app {r1 r2 : List Cw} {s : Nat} (h1 : ApC r1) (h2 : ApC r2) (b1 : ∀ c ∈ r1, ∀ b, c.v.ownBlock = some b → b < s) (b2 : ∀ c ∈ r2, ∀ b, c.v.ownBlock = some b → s ≤ b) : ApC (r1 ++ r2) := by
  intro i j x y hij hx hy
  have key : (∀ b d, x.v.ownBlock = some b → y.v.ownBlock = some d → b ≠ d) → x.v.ownBlock = none ∨ x.v.ownBlock ≠ y.v.ownBlock := by
    intro h
    cases hu : x.v.ownBlock with
    | none => exact .inl rfl
    | some b => exact .inr fun e => h b b hu e.symm rfl
  by_cases hi : i < r1.length
  · rw [List.getElem?_append_left hi] at hx
    by_cases hj : j < r1.length
    · rw [List.getElem?_append_left hj] at hy
      exact h1 i j x y hij hx hy
    · rw [List.getElem?_append_right (by omega)] at hy
      refine key fun b d hb hd e => ?_
      have := b1 x (List.mem_of_getElem? hx) b hb
      have := b2 y (List.mem_of_getElem? hy) d hd
      omega
  · rw [List.getElem?_append_right (by omega)] at hx
    by_cases hj : j < r1.length
    · rw [List.getElem?_append_left hj] at hy
      refine key fun b d hb hd e => ?_
      have := b2 x (List.mem_of_getElem? hx) b hb
      have := b1 y (List.mem_of_getElem? hy) d hd
      omega
    · rw [List.getElem?_append_right (by omega)] at hy
      exact h2 _ _ x y (by omega) hx hy

theorem ap_comm {r1 r2 : List Cw} (h : ApC (r1 ++ r2)) : ApC (r2 ++ r1) := by
  intro i j x y hij hx hy
  have m : ∀ (k : Nat) (z : Cw), (r2 ++ r1)[k]? = some z → ∃ k', (r1 ++ r2)[k']? = some z ∧ k' = (if k < r2.length then k + r1.length else k - r2.length) := by
    intro k z hz
    by_cases hk : k < r2.length
    · rw [List.getElem?_append_left hk] at hz
      refine ⟨k + r1.length, ?_, by rw [if_pos hk]⟩
      rw [List.getElem?_append_right (by omega), Nat.add_sub_cancel]
      exact hz
    · rw [List.getElem?_append_right (by omega)] at hz
      have hl := (List.getElem?_eq_some_iff.1 hz).1
      refine ⟨k - r2.length, ?_, by rw [if_neg hk]⟩
      rw [List.getElem?_append_left hl]
      exact hz
  obtain ⟨i', hi', ei⟩ := m i x hx
  obtain ⟨j', hj', ej⟩ := m j y hy
  have hli := (List.getElem?_eq_some_iff.1 hx).1
  have hlj := (List.getElem?_eq_some_iff.1 hy).1
  rw [List.length_append] at hli hlj
  refine h i' j' x y ?_ hi' hj'
  rw [ei, ej]
  split <;> split <;> omega

theorem listsC_tri {b0 s1 s2 : Nat} {w : World} {vc vx vo : Value} {rc rx ro : List Cw} (hc : Oc s1 w vc rc) (hx : Oc s2 w vx rx) (ho : Oc b0 w vo ro) (h01 : b0 ≤ s1) (h12 : s1 ≤ s2) (lo : Oc.Lt vo ro s1) (lc : Oc.Lt vc rc s2) :
    ListsC 3 w.heap.size b0 (w.alloc (.cells #[vc, vx, vo] 23)) (tri17 vc vx vo) (tri17 rc rx ro) := by
  have bel : Below w.heap.size w (w.alloc (.cells #[vc, vx, vo] 23)) := (Below.refl _ _).alloc (Nat.le_refl _) _
  have hc' := (hc.below bel).rebase h01
  have hx' := (hx.below bel).rebase (Nat.le_trans h01 h12)
  have ho' := ho.below bel
  have thr : ∀ i, i < 3 → i = 0 ∨ i = 1 ∨ i = 2 := by omega
  have tc : ∀ b, vc.ownBlock = some b → s1 ≤ b ∧ b < w.heap.size := World.ownsRow.lt hc.c
  have tx : ∀ b, vx.ownBlock = some b → s2 ≤ b ∧ b < w.heap.size := World.ownsRow.lt hx.c
  have to : ∀ b, vo.ownBlock = some b → b0 ≤ b ∧ b < w.heap.size := World.ownsRow.lt ho.c
  have key : ∀ u v : Value, (∀ b d, u.ownBlock = some b → v.ownBlock = some d → b ≠ d) → u.ownBlock = none ∨ u.ownBlock ≠ v.ownBlock := by
    intro u v h
    cases hu : u.ownBlock with
    | none => exact .inl rfl
    | some b => exact .inr fun e => h b b hu e.symm rfl
  refine ⟨fun i hi => ?_, fun i hi => ?_, fun i hi => ?_, fun i hi => ?_, fun i j hi hj hne => ?_, fun i hi => ?_, fun i hi => ?_, fun i hi => ?_, fun i hi => ?_, ?_⟩
  · rcases thr i hi with rfl | rfl | rfl <;> simp [tri17]
  · rcases thr i hi with rfl | rfl | rfl
    · exact hc'.c
    · exact hx'.c
    · exact ho'.c
  · rcases thr i hi with rfl | rfl | rfl
    · exact hc'.o
    · exact hx'.o
    · exact ho'.o
  · rcases thr i hi with rfl | rfl | rfl
    · exact hc.i
    · exact hx.i
    · exact ho.i
  · rcases thr i hi with rfl | rfl | rfl <;> rcases thr j hj with rfl | rfl | rfl <;> first | exact absurd rfl hne | skip
    all_goals
      refine key _ _ fun b d hb hd e => ?_
      simp only [tri17] at hb hd
    · have := lc.1 b hb; have := tx d hd; omega
    · have := tc b hb; have := lo.1 d hd; omega
    · have := tx b hb; have := lc.1 d hd; omega
    · have := tx b hb; have := lo.1 d hd; omega
    · have := lo.1 b hb; have := tc d hd; omega
    · have := lo.1 b hb; have := tx d hd; omega
  · intro e
    rcases thr i hi with rfl | rfl | rfl
    · have := tc _ e; omega
    · have := tx _ e; omega
    · have := to _ e; omega
  · rcases thr i hi with rfl | rfl | rfl
    · exact hc.len
    · exact hx.len
    · exact ho.len
  · rcases thr i hi with rfl | rfl | rfl
    · exact hc.ops
    · exact hx.ops
    · exact ho.ops
  · rcases thr i hi with rfl | rfl | rfl
    · exact hc.fit
    · exact hx.fit
    · exact ho.fit
  · have e : (List.range 3).flatMap (tri17 rc rx ro) = (rc ++ rx) ++ ro := by simp [List.range_succ, tri17]
    rw [e]
    refine ap_comm (ap_app (s := s1) ho.ap (ap_app (s := s2) hc.ap hx.ap lc.2 fun c h b e => (World.ownsRow.lt (hx.o c h) b e).1) lo.2 fun c h b e => ?_)
    rcases List.mem_append.1 h with h | h
    · exact (World.ownsRow.lt (hc.o c h) b e).1
    · have := (World.ownsRow.lt (hx.o c h) b e).1
      omega

end Go.Proofs.YtkpnkknolobioaaGreat

/- What an argument that is a slice of ops comes in as. No program. -/
namespace Go.Proofs.YtkpnkknolobioaaGreat
open Go.RowKit Go.ChangeShapes Go.WideShapes Go.Deep
set_option linter.unusedVariables false

/-- An op as a datum. -/
def opd {H : Type} (o : Bm.Ov) : DataW H := .agg [.lit (.bool o.p), .lit (.string o.k.data.toList), .lit (.string o.v.data.toList)]

theorem ocells_inv : ∀ (l : List Bm.Ov) (j : Nat) (u : Value), (ocells l)[j]? = some u → ∃ i o, l[i]? = some o ∧ ((j = i * 3 ∧ u = .bool o.p) ∨ (j = i * 3 + 1 ∧ u = .string o.k) ∨ (j = i * 3 + 2 ∧ u = .string o.v))
  | [], j, u, h => by simp [ocells] at h
  | o :: r, 0, u, h => ⟨0, o, rfl, .inl ⟨rfl, by simpa [ocells, ocell] using h.symm⟩⟩
  | o :: r, 1, u, h => ⟨0, o, rfl, .inr (.inl ⟨rfl, by simpa [ocells, ocell] using h.symm⟩)⟩
  | o :: r, 2, u, h => ⟨0, o, rfl, .inr (.inr ⟨rfl, by simpa [ocells, ocell] using h.symm⟩)⟩
  | o :: r, j + 3, u, h => by
    have h' : (ocells r)[j]? = some u := by simpa [ocells, ocell] using h
    obtain ⟨i, q, hq, hc⟩ := ocells_inv r j u h'
    refine ⟨i + 1, q, by simpa using hq, ?_⟩
    rcases hc with ⟨rfl, hu⟩ | ⟨rfl, hu⟩ | ⟨rfl, hu⟩
    · exact .inl ⟨by omega, hu⟩
    · exact .inr (.inl ⟨by omega, hu⟩)
    · exact .inr (.inr ⟨by omega, hu⟩)

section
variable {H : Type} {enc : TypeId × Value → H} {P : Program} {w : World} {base : Nat} {spare : Nat → Bool} {held : Bool}

theorem open_ops {t e : TypeId} {f0 f1 f2 : Field} {fuel : Nat} {v : Value} {x : DataW H × List MemPlace} (ht : P.underlying t = some (.slice e)) (he : P.underlying e = some (.struct #[f0, f1, f2]))
    (hone : oneCellFields P #[f0, f1, f2] = true) (ce : P.cellsOf e = 3) (u0 : P.underlying f0.type = some .bool) (u1 : P.underlying f1.type = some .string) (u2 : P.underlying f2.type = some .string)
    (h : DataW.trod enc P w base spare held fuel t [v] = some x) : ∃ l : List Bm.Ov, IsO w v l ∧ ((x.1 = .nil ∧ l = []) ∨ ∃ sp, x.1 = .slice (l.map opd) sp) := by
  rcases open_slice ht h with ⟨hv, hx⟩ | ⟨a, len, cap, m, n, D, Pl, hv, hb, hl, hm, hmm, rfl, hx⟩
  · simp at hv
    subst hv hx
    exact ⟨[], IsO.nil _, .inl ⟨rfl, rfl⟩⟩
  · simp at hv
    subst hv
    have hlm : len ≤ m := by rw [hmm]; split <;> omega
    obtain ⟨o0, c0⟩ := hone_of hone 0 f0 rfl
    obtain ⟨o1, c1⟩ := hone_of hone 1 f1 rfl
    obtain ⟨o2, c2⟩ := hone_of hone 2 f2 rfl
    have each : ∀ i, i < len → ∃ o : Bm.Ov, w.cell? (a.add (i * 3)) = some (.bool o.p) ∧ w.cell? (a.add (i * 3 + 1)) = some (.string o.k) ∧ w.cell? (a.add (i * 3 + 2)) = some (.string o.v) ∧ D i = opd o := by
      intro i hi
      obtain ⟨cs', h1, h2⟩ := hx i (by omega)
      rw [ce] at h1
      obtain ⟨_, hlen, hcell⟩ := World.cells?_some h1
      obtain ⟨y0, y1, y2, k, hxy, _, g0, g1, g2⟩ := trod_struct3 he h2
      match cs', hlen with
      | [v0, v1, v2], _ =>
        simp [o0, o1, o2, c0, c1, c2] at g0 g1 g2
        obtain ⟨p, hp, rfl⟩ := DataW.trod_bool u0 g0
        obtain ⟨s, hs, rfl, _⟩ := DataW.trod_string u1 g1
        obtain ⟨r, hr, rfl, _⟩ := DataW.trod_string u2 g2
        simp at hp hs hr
        subst hp hs hr
        have e0 := hcell 0 (by omega)
        have e1 := hcell 1 (by omega)
        have e2 := hcell 2 (by omega)
        rw [Go.Deep.add_add] at e0 e1 e2
        simp only [Prod.mk.injEq] at hxy
        exact ⟨⟨p, s, r⟩, by simpa using e0, by simpa using e1, by simpa using e2, hxy.1⟩
    have : Inhabited Bm.Ov := ⟨⟨false, ⟨#[]⟩, ⟨#[]⟩⟩⟩
    obtain ⟨f, hf⟩ := choose_lt each
    refine ⟨(List.range len).map f, .inr ⟨a, cap, by simp, by simpa using hl, hm, fun j u hj => ?_⟩, .inr ⟨(List.range (m - len)).map fun j => D (len + j), ?_⟩⟩
    · obtain ⟨i, o, ho, hc⟩ := ocells_inv _ j u hj
      obtain ⟨hi, e⟩ := List.getElem?_eq_some_iff.1 ho
      simp at hi e
      obtain ⟨k0, k1, k2, _⟩ := hf i hi
      subst e
      rcases hc with ⟨rfl, rfl⟩ | ⟨rfl, rfl⟩ | ⟨rfl, rfl⟩
      · exact k0
      · exact k1
      · exact k2
    · show DataW.slice _ _ = DataW.slice _ _
      congr 1
      rw [List.map_map]
      exact List.map_congr_left fun i hi => (hf i (by simpa using hi)).2.2.2

theorem weights_all {e : TypeId} {n : Nat} {d : DataW H} : ∀ {ds : List (DataW H)}, d ∈ ds → n ∈ d.weights P e → n ∈ DataW.weightsAll P e ds
  | [], h, _ => by simp at h
  | q :: r, h, hn => by
    simp only [DataW.weightsAll, List.mem_append]
    rcases List.mem_cons.1 h with rfl | h
    · exact .inl hn
    · exact .inr (weights_all h hn)

/-- A list of ops as a datum. -/
def OpsD (d : DataW H) (l : List Bm.Ov) : Prop := (d = .nil ∧ l = []) ∨ ∃ sp, d = .slice (l.map opd) sp

theorem ops_fit {t e : TypeId} {f0 f1 f2 : Field} {l : List Bm.Ov} {d : DataW H} (h : ∀ n ∈ d.weights P t, n ≤ reachBytes) (hd : OpsD d l) (hu : P.underlying t = some (.slice e)) (he : P.underlying e = some (.struct #[f0, f1, f2])) (hb : P.bytesOf e = 40) :
    FitO l ∧ l.length * 40 ≤ 140737488351232 := by
  rcases hd with ⟨_, rfl⟩ | ⟨sp, rfl⟩
  · exact ⟨fun o ho => by simp at ho, by simp⟩
  refine ⟨fun o ho => ?_, ?_⟩
  · have key : ∀ n ∈ (opd (H := H) o).weights P e, n ≤ 140737488351232 := by
      intro n hn
      exact h n (by
        simp only [DataW.weights, hu]
        exact List.mem_cons_of_mem _ (List.mem_append_left _ (weights_all (List.mem_map_of_mem ho) hn)))
    constructor
    · have := key o.k.data.toList.length (by simp [opd, DataW.weights, he, DataW.weightsEach])
      rw [Lib.size_eq]; exact this
    · have := key o.v.data.toList.length (by simp [opd, DataW.weights, he, DataW.weightsEach])
      rw [Lib.size_eq]; exact this
  · have := h ((l.map (opd (H := H))).length + sp.length |> (· * P.bytesOf e)) (by simp [DataW.weights, hu])
    rw [hb] at this
    simp only [List.length_map, reachBytes] at this
    omega

theorem sized_ops {ts : List TypeId} {ds : List (DataW H)} (h : (DataW.weightsEach P ts ds).all (· ≤ reachBytes) = true) {j : Nat} {t e : TypeId} {f0 f1 f2 : Field} {l : List Bm.Ov} {sp : List (DataW H)} (ht : ts[j]? = some t) (hd : ds[j]? = some (.slice (l.map opd) sp)) (hu : P.underlying t = some (.slice e)) (he : P.underlying e = some (.struct #[f0, f1, f2])) (hb : P.bytesOf e = 40) :
    FitO l ∧ l.length * 40 ≤ 140737488351232 := by
  have hall := List.all_eq_true.1 h
  refine ⟨fun o ho => ?_, ?_⟩
  · have key : ∀ n ∈ (opd (H := H) o).weights P e, n ≤ 140737488351232 := by
      intro n hn
      have := hall n (DataW.weights_mem_each ht hd n (by
        simp only [DataW.weights, hu]
        exact List.mem_cons_of_mem _ (List.mem_append_left _ (weights_all (List.mem_map_of_mem ho) hn))))
      have h3 : n ≤ reachBytes := of_decide_eq_true this
      exact h3
    constructor
    · have := key o.k.data.toList.length (by simp [opd, DataW.weights, he, DataW.weightsEach])
      rw [Lib.size_eq]; exact this
    · have := key o.v.data.toList.length (by simp [opd, DataW.weights, he, DataW.weightsEach])
      rw [Lib.size_eq]; exact this
  · have := sized_slice h ht hd hu
    rw [hb] at this
    simp only [List.length_map, reachBytes] at this
    omega

end

end Go.Proofs.YtkpnkknolobioaaGreat
