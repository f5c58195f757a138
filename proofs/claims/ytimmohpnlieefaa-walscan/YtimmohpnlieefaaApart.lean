/- The contracts of OverBytes and ApartBytes. -/
import Derived.Test.YtimmohpnlieefaaA1
namespace Go.Proofs.Ytimmohpnlieefaa
open Go.RowKit
set_option linter.unusedVariables false


/-- Go's complement of a byte, as the walk spells it. -/
def cpl (z : Int) : Int := bits BinOp.xor IntKind.u8 (if IntKind.u8.signed = true then -1 else IntKind.u8.max) z

theorem cpl_wf (z : Int) : (Lit.int .u8 (cpl z)).wf = true := wf_bits _ _ _ _

theorem mid_at (zs : List Int) (k : Nat) (h : k < zs.length) : (((zs.map cpl).take k ++ zs.drop k).map (Value.int .u8))[k]? = some (.int .u8 zs[k]) := by
  have hl : ((zs.map cpl).take k).length = k := by rw [List.length_take, List.length_map]; omega
  rw [List.getElem?_map, List.getElem?_append_right (by omega), hl, Nat.sub_self, List.drop_eq_getElem_cons h]
  rfl

theorem mid_set (zs : List Int) (k : Nat) (h : k < zs.length) : (((zs.map cpl).take k ++ zs.drop k).map (Value.int .u8)).set k (.int .u8 (cpl zs[k])) = ((zs.map cpl).take (k + 1) ++ zs.drop (k + 1)).map (Value.int .u8) := by
  have hl : ((zs.map cpl).take k).length = k := by rw [List.length_take, List.length_map]; omega
  have hl2 : (((zs.map cpl).take k).map (Value.int .u8)).length = k := by rw [List.length_map, hl]
  rw [List.drop_eq_getElem_cons h, List.map_append, List.set_append_right _ _ (by omega), hl2, Nat.sub_self, List.take_succ_eq_append_getElem (by simpa using h), List.map_cons, List.set_cons_zero]
  simp only [List.map_append, List.map_cons, List.append_assoc, List.cons_append, List.nil_append, List.getElem_map]



theorem Try.info37 : (Try.prog.info? 37).map (fun i => (i.zero, i.size, i.bytes)) = some (some (.slice none 0 0), 1, 24) := by kernel_rfl



/-- What the lists are, ahead of ApartBytes. -/
structure Lists (m bl base : Nat) (w : World) (vs : Nat → Value) (zs : Nat → List Int) : Prop where
  cell : ∀ i, i < m → w.cell? ⟨bl, i, none⟩ = some (vs i)
  own : ∀ i, i < m → Own .u8 5 base w (vs i) (zs i)
  apart : ∀ i j, i < m → j < m → i ≠ j → (vs i).ownBlock = none ∨ (vs i).ownBlock ≠ (vs j).ownBlock
  table : ∀ i, i < m → (vs i).ownBlock ≠ some bl
  lens : ∀ i, i < m → (zs i).length ≤ 150000000000000

/-- Behind the first loop: a copy of each. -/
structure Copies (m bl base : Nat) (w0 wr : World) (vs us : Nat → Value) (zs : Nat → List Int) (k : Nat) : Prop where
  cell : ∀ i, i < m → wr.cell? ⟨bl, i, none⟩ = some (vs i)
  was : ∀ i, i < m → wr.cell? ⟨w0.heap.size, i, none⟩ = some (us i)
  new : ∀ i, i < m → Own .u8 5 (w0.heap.size + 1) wr (us i) (zs i)
  done : ∀ i, i < k → i < m → Own .u8 5 base wr (vs i) ((zs i).map cpl)
  left : ∀ i, k ≤ i → i < m → Own .u8 5 base wr (vs i) (zs i)
  below : Below base w0 wr
  keep : ∀ g, g < w0.heap.size → (∀ i, i < m → (vs i).ownBlock ≠ some g) → wr.heap[g]? = w0.heap[g]?

theorem copies_step {m B k : Nat} {w wr w1 : World} {xs : List Value} {u : Value} {zs : Nat → List Int} (hk : k < m) (ho : w1.ownsRow B 37 1 (.slice (some ⟨B, 0, none⟩) m m) m xs)
    (hc : ∀ j, j < k → Own .u8 5 (B + 1) wr (xs.getD j (.slice none 0 0)) (zs j)) (bel : Below B w wr) (hs : B < wr.heap.size) (ownu : Own .u8 5 wr.heap.size w1 u (zs k)) (belu : Below wr.heap.size wr w1) :
    (w1.setCell ⟨B, k, none⟩ u).ownsRow B 37 1 (.slice (some ⟨B, 0, none⟩) m m) m (xs.set k u) ∧ (∀ j, j < k + 1 → Own .u8 5 (B + 1) (w1.setCell ⟨B, k, none⟩ u) ((xs.set k u).getD j (.slice none 0 0)) (zs j)) ∧
      Below B w (w1.setCell ⟨B, k, none⟩ u) ∧ B < (w1.setCell ⟨B, k, none⟩ u).heap.size := by
  have hst := ho.stored k u
  have hl : xs.length = m := by have := ho.1; omega
  refine ⟨hst.1, fun j hj => ?_, (bel.trans (belu.mono (by omega))).setCell (Nat.le_refl _) _, ?_⟩
  · by_cases hjk : j = k
    · subst hjk
      have e : (xs.set j u).getD j (.slice none 0 0) = u := by simp [hl, hk]
      rw [e]
      refine (ownu.rebase (by omega)).kept hst.2 ?_
      cases hb : u.ownBlock with
      | none => exact .inl rfl
      | some b => exact .inr (by have := ownu.block b hb; simp; omega)
    · have e : (xs.set k u).getD j (.slice none 0 0) = xs.getD j (.slice none 0 0) := by
        simp [List.getD, List.getElem?_set_ne (Ne.symm hjk)]
      rw [e]
      have h1 := hc j (by omega)
      refine (h1.below belu).kept hst.2 ?_
      cases hb : (xs.getD j (.slice none 0 0)).ownBlock with
      | none => exact .inl rfl
      | some b => exact .inr (by have := h1.block b hb; simp; omega)
  · have := hst.2.size
    have := belu.size
    omega

theorem copies_start {m bl B base : Nat} {w wr : World} {xs : List Value} {vs : Nat → Value} {zs : Nat → List Int} (hB : B = w.heap.size) (hm0 : 0 < m) (hbase : base ≤ B) (H : Lists m bl base w vs zs) (ho : wr.ownsRow B 37 1 (.slice (some ⟨B, 0, none⟩) m m) m xs)
    (hc : ∀ j, j < m → Own .u8 5 (B + 1) wr (xs.getD j (.slice none 0 0)) (zs j)) (bel : Below B w wr) : Copies m bl base w wr vs (fun j => xs.getD j (.slice none 0 0)) zs 0 := by
  subst hB
  have hl : xs.length = m := by have := ho.1; omega
  exact ⟨fun i hi => (bel.cell (p := ⟨bl, i, none⟩) (World.block_lt_of_cell? _ _ (H.cell i hi))).trans (H.cell i hi),
    fun i hi => by rw [ho.cellAt i (by omega)]; simp [List.getD, List.getElem?_eq_getElem (show i < xs.length by omega)],
    hc, fun i h0 => absurd h0 (by omega), fun i _ hi => (H.own i hi).below bel, bel.mono hbase, fun g hg _ => bel.block g hg⟩

theorem copies_over {m bl base k : Nat} {w wr w2 : World} {vs us : Nat → Value} {zs : Nat → List Int} (hk : k < m) (hbase : base ≤ w.heap.size) (hsz : w.heap.size ≤ wr.heap.size) (H : Lists m bl base w vs zs) (C : Copies m bl base w wr vs us zs k)
    (ho : Own .u8 5 base w2 (vs k) ((zs k).map cpl)) (hg : wr.grownBy w2 (vs k).ownBlock) : Copies m bl base w w2 vs us zs (k + 1) := by
  have hvk : ∀ b, (vs k).ownBlock = some b → base ≤ b ∧ b < w.heap.size := (H.own k hk).block
  have other : ∀ i, i < m → i ≠ k → (vs i).ownBlock = none ∨ (vs i).ownBlock ≠ (vs k).ownBlock := fun i hi hne => H.apart i k hi hk hne
  refine ⟨fun i hi => hg.cell (C.cell i hi) (fun e => H.table k hk e.symm), fun i hi => hg.cell (C.was i hi) (fun e => by have := hvk _ e.symm; simp at this), fun i hi => (C.new i hi).kept hg ?_, fun i h1 hi => ?_, fun i h1 hi => ?_, ?_, fun g hlt hn => (hg.block g (by omega) (fun e => hn k hk e.symm)).trans (C.keep g hlt hn)⟩
  · cases hb : (us i).ownBlock with
    | none => exact .inl rfl
    | some b =>
      refine .inr fun e => ?_
      have h1 := (C.new i hi).block b hb
      have h2 := hvk b e.symm
      omega
  · by_cases e : i = k
    · subst e; exact ho
    · exact (C.done i (by omega) hi).kept hg (other i hi e)
  · exact (C.left i (by omega) hi).kept hg (other i hi (by omega))
  · exact C.below.grown hg (by omega) (fun b hb => (hvk b hb).1)



/-- Two lists in a table. -/
def two {α : Type} (a b : α) : Nat → α | 0 => a | _ => b

theorem lists_two {base : Nat} {w : World} {va vc : Value} {za zc : List Int} {s2 : Nat} (ha : Own .u8 5 base w va za) (hc : Own .u8 5 s2 w vc zc)
    (h2 : ∀ b, va.ownBlock = some b → b < s2) (hb1 : base ≤ s2) (la : za.length ≤ 150000000000000) (lc : zc.length ≤ 150000000000000) :
    Lists 2 w.heap.size base (w.alloc (.cells #[va, vc] 37)) (two va vc) (two za zc) := by
  have bel : Below w.heap.size w (w.alloc (.cells #[va, vc] 37)) := (Below.refl _ _).alloc (Nat.le_refl _) _
  have ha' := ha.below bel
  have hc' := (hc.below bel).rebase (by omega : base ≤ s2)
  have either : ∀ i, i < 2 → i = 0 ∨ i = 1 := by omega
  have ba := ha.block
  have bc := hc.block
  refine ⟨fun i hi => ?_, fun i hi => ?_, fun i j hi hj hne => ?_, fun i hi => ?_, fun i hi => ?_⟩
  · rcases either i hi with rfl | rfl <;> simp [two]
  · rcases either i hi with rfl | rfl
    · exact ha'
    · exact hc'
  · have key : ∀ u v : Value, (∀ b d, u.ownBlock = some b → v.ownBlock = some d → b ≠ d) → u.ownBlock = none ∨ u.ownBlock ≠ v.ownBlock := by
      intro u v h
      cases hu : u.ownBlock with
      | none => exact .inl rfl
      | some b => exact .inr fun e => h b b hu e.symm rfl
    rcases either i hi with rfl | rfl <;> rcases either j hj with rfl | rfl <;> first | exact absurd rfl hne | skip
    all_goals
      refine key _ _ fun b d hb hd => ?_
      simp only [two] at hb hd
    · have := h2 b hb; have := bc d hd; omega
    · have := bc b hb; have := h2 d hd; omega
  · intro e
    rcases either i hi with rfl | rfl
    · have := ba _ e; omega
    · have := bc _ e; omega
  · rcases either i hi with rfl | rfl
    · exact la
    · exact lc

theorem lists_three {base : Nat} {w : World} {va vc vf : Value} {za zc zf : List Int} {s1 s2 : Nat} (ha : Own .u8 5 s1 w va za) (hc : Own .u8 5 s2 w vc zc) (hf : Own .u8 5 base w vf zf)
    (h1 : ∀ b, vf.ownBlock = some b → b < s1) (h2 : ∀ b, va.ownBlock = some b → b < s2) (hb1 : base ≤ s1) (h12 : s1 ≤ s2) (la : za.length ≤ 150000000000000) (lc : zc.length ≤ 150000000000000) (lf : zf.length ≤ 150000000000000) :
    Lists 3 w.heap.size base (w.alloc (.cells #[va, vc, vf] 37)) (tri va vc vf) (tri za zc zf) := by
  have bel : Below w.heap.size w (w.alloc (.cells #[va, vc, vf] 37)) := (Below.refl _ _).alloc (Nat.le_refl _) _
  have ha' := (ha.below bel).rebase (by omega : base ≤ s1)
  have hc' := (hc.below bel).rebase (by omega : base ≤ s2)
  have hf' := hf.below bel
  have three : ∀ i, i < 3 → i = 0 ∨ i = 1 ∨ i = 2 := by omega
  have ba := ha.block
  have bc := hc.block
  have bf := hf.block
  refine ⟨fun i hi => ?_, fun i hi => ?_, fun i j hi hj hne => ?_, fun i hi => ?_, fun i hi => ?_⟩
  · rcases three i hi with rfl | rfl | rfl <;> simp [tri]
  · rcases three i hi with rfl | rfl | rfl
    · exact ha'
    · exact hc'
    · exact hf'
  · have key : ∀ u v : Value, (∀ b d, u.ownBlock = some b → v.ownBlock = some d → b ≠ d) → u.ownBlock = none ∨ u.ownBlock ≠ v.ownBlock := by
      intro u v h
      cases hu : u.ownBlock with
      | none => exact .inl rfl
      | some b => exact .inr fun e => h b b hu e.symm rfl
    rcases three i hi with rfl | rfl | rfl <;> rcases three j hj with rfl | rfl | rfl <;> first | exact absurd rfl hne | skip
    all_goals
      refine key _ _ fun b d hb hd => ?_
      simp only [tri] at hb hd
    · have := h2 b hb; have := bc d hd; omega
    · have := ba b hb; have := h1 d hd; omega
    · have := bc b hb; have := h2 d hd; omega
    · have := bc b hb; have := h1 d hd; omega
    · have := h1 b hb; have := ba d hd; omega
    · have := h1 b hb; have := bc d hd; omega
  · intro e
    rcases three i hi with rfl | rfl | rfl
    · have := ba _ e; omega
    · have := bc _ e; omega
    · have := bf _ e; omega
  · rcases three i hi with rfl | rfl | rfl
    · exact la
    · exact lc
    · exact lf

end Go.Proofs.Ytimmohpnlieefaa
