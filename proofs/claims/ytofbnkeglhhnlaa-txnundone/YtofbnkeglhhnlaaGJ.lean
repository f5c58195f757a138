/- Texts of one layer, one behind the other. -/
import Derived.Test.YtofbnkeglhhnlaaGF
import Derived.Test.YtofbnkeglhhnlaaG2
import Derived.Test.YtofbnkeglhhnlaaG7
import Derived.Test.YtofbnkeglhhnlaaG8
/- Law 16: two txns of the program's beside one another. -/
namespace Go.Proofs.Ytofbnkeglhhnlaa
open Go.RowKit
open Bm (Ov)
set_option linter.unusedVariables false

/-- Two txns. -/
structure PD (w0 w : World) (s t : Tx.St) (p x : Nat) (F G : Nat → Prop) : Prop where
  ps : Pz p F w s
  qs : Pz x G w t
  ap : ∀ g, F g → ¬ G g
  fb : ∀ g, F g → w0.heap.size ≤ g
  gb : ∀ g, G g → w0.heap.size ≤ g
  bel : Below w0.heap.size w0 w

/-- Both are open, and alike. -/
def DN (w0 : World) (p x : Nat) (w : World) : Prop := ∃ s F G, PD w0 w s s p x F G ∧ s.ov = false

/-- The first has gone on. -/
def DM (w0 : World) (p x : Nat) (t : Tx.St) (w : World) : Prop := ∃ s F G, PD w0 w s t p x F G ∧ s.ov = false ∧ t.l <+: s.l

section
variable {w0 w w' : World} {s t s' : Tx.St} {p x : Nat} {F G : Nat → Prop}

theorem PD.below (h : PD w0 w s t p x F G) (hb : Below w.heap.size w w') : PD w0 w' s t p x F G :=
  ⟨h.ps.below hb, h.qs.below hb, h.ap, h.fb, h.gb, h.bel.trans (hb.mono h.bel.size)⟩

theorem PD.stepP (h : PD w0 w s t p x F G) (hs : PzS p F w w' s') : ∃ F', PD w0 w' s' t p x F' G ∧ Out F w w' := by
  obtain ⟨F', k, o, hsub⟩ := hs
  refine ⟨F', ⟨k, h.qs.out o fun g hg e => h.ap g e hg, fun g hf hg => ?_, fun g hf => ?_, h.gb, h.bel.trans (o.below h.fb h.bel.size)⟩, o⟩
  · rcases hsub g hf with e | e
    · exact h.ap g e hg
    · have := h.qs.lt g hg
      omega
  · rcases hsub g hf with e | e
    · exact h.fb g e
    · exact Nat.le_trans h.bel.size e

theorem PD.stepQ (h : PD w0 w s t p x F G) (hs : PzS x G w w' s') : ∃ G', PD w0 w' s s' p x F G' ∧ Out G w w' := by
  obtain ⟨G', k, o, hsub⟩ := hs
  refine ⟨G', ⟨h.ps.out o h.ap, k, fun g hf hg => ?_, h.fb, fun g hg => ?_, h.bel.trans (o.below h.gb h.bel.size)⟩, o⟩
  · rcases hsub g hg with e | e
    · exact h.ap g hf e
    · have := h.ps.lt g hf
      omega
  · rcases hsub g hg with e | e
    · exact h.gb g e
    · exact Nat.le_trans h.bel.size e

theorem Tx.add_ov (h : s.ov = false) (o : Ov) : (Tx.add s o).ov = false := by
  unfold Tx.add
  split
  · rfl
  · exact h

theorem Tx.add_pre (h : t.l <+: s.l) (o : Ov) : t.l <+: (Tx.add s o).l := by
  unfold Tx.add
  split
  · exact h.trans (List.prefix_append _ _)
  · exact h

theorem Tx.und_pre (h : t.l <+: s.l) (hs : s.ov = false) (ht : t.ov = false) : Tx.undE s t.l.length = 0 ∧ Tx.und s t.l.length = t := by
  have hl := h.length_le
  have e1 : Tx.undE s t.l.length = 0 := by
    unfold Tx.undE
    rw [if_neg (by rw [hs]; decide), if_pos (by omega)]
  refine ⟨e1, ?_⟩
  unfold Tx.und
  rw [if_pos e1, Int.toNat_natCast, ← List.prefix_iff_eq_take.1 h]
  cases t
  simp only at ht
  rw [ht]

end

end Go.Proofs.Ytofbnkeglhhnlaa

/- The contracts of OverBytes and ApartBytes. -/
namespace Go.Proofs.Ytofbnkeglhhnlaa
open Go.RowKit
set_option linter.unusedVariables false


/-- Go's complement of a byte, as the walk spells it. -/
def cpl (z : Int) : Int := bits BinOp.xor IntKind.u8 (if IntKind.u8.signed = true then -1 else IntKind.u8.max) z

theorem cpl_wf (z : Int) : (Lit.int .u8 (cpl z)).wf = true := wf_bits _ _ _ _

theorem mid_at (zs : List Int) (k : Nat) (h : k < zs.length) : (((zs.map cpl).take k ++ zs.drop k).map (Value.int .u8))[k]? = some (.int .u8 zs[k]) := by
  have hl : ((zs.map cpl).take k).length = k := by rw [List.length_take, List.length_map]; omega
  rw [List.getElem?_map, List.getElem?_append_right (by omega), hl, Nat.sub_self, List.drop_eq_getElem_cons h]
  rfl

theorem mid_set (zs : List Int) (k : Nat) (h : k < zs.length) : (((zs.map cpl).take k ++ zs.drop k).map (Value.int .u8)).set k (.int .u8 (cpl zs[k])) = ((zs.map cpl).take (k + 1) ++ zs.drop (k + 1)).map (Value.int .u8) := by
  have hl : ((zs.map cpl).take k).length = k := by rw [List.length_take, List.length_map]; omega
  have hl2 : (((zs.map cpl).take k).map (Value.int .u8)).length = k := by rw [List.length_map, hl]
  rw [List.drop_eq_getElem_cons h, List.map_append, List.set_append_right _ _ (by omega), hl2, Nat.sub_self, List.take_succ_eq_append_getElem (by simpa using h), List.map_cons, List.set_cons_zero]
  simp only [List.map_append, List.map_cons, List.append_assoc, List.cons_append, List.nil_append, List.getElem_map]





/-- What the lists are, ahead of ApartBytes. -/
structure Lists (m bl base : Nat) (w : World) (vs : Nat → Value) (zs : Nat → List Int) : Prop where
  cell : ∀ i, i < m → w.cell? ⟨bl, i, none⟩ = some (vs i)
  own : ∀ i, i < m → Own .u8 5 base w (vs i) (zs i)
  apart : ∀ i j, i < m → j < m → i ≠ j → (vs i).ownBlock = none ∨ (vs i).ownBlock ≠ (vs j).ownBlock
  table : ∀ i, i < m → (vs i).ownBlock ≠ some bl
  lens : ∀ i, i < m → (zs i).length ≤ 150000000000000

/-- Behind the first loop: a copy of each. -/
structure Copies (m bl base : Nat) (w0 wr : World) (vs us : Nat → Value) (zs : Nat → List Int) (k : Nat) : Prop where
  cell : ∀ i, i < m → wr.cell? ⟨bl, i, none⟩ = some (vs i)
  was : ∀ i, i < m → wr.cell? ⟨w0.heap.size, i, none⟩ = some (us i)
  new : ∀ i, i < m → Own .u8 5 (w0.heap.size + 1) wr (us i) (zs i)
  done : ∀ i, i < k → i < m → Own .u8 5 base wr (vs i) ((zs i).map cpl)
  left : ∀ i, k ≤ i → i < m → Own .u8 5 base wr (vs i) (zs i)
  below : Below base w0 wr
  keep : ∀ g, g < w0.heap.size → (∀ i, i < m → (vs i).ownBlock ≠ some g) → wr.heap[g]? = w0.heap[g]?

theorem copies_over {m bl base k : Nat} {w wr w2 : World} {vs us : Nat → Value} {zs : Nat → List Int} (hk : k < m) (hbase : base ≤ w.heap.size) (hsz : w.heap.size ≤ wr.heap.size) (H : Lists m bl base w vs zs) (C : Copies m bl base w wr vs us zs k)
    (ho : Own .u8 5 base w2 (vs k) ((zs k).map cpl)) (hg : wr.grownBy w2 (vs k).ownBlock) : Copies m bl base w w2 vs us zs (k + 1) := by
  have hvk : ∀ b, (vs k).ownBlock = some b → base ≤ b ∧ b < w.heap.size := (H.own k hk).block
  have other : ∀ i, i < m → i ≠ k → (vs i).ownBlock = none ∨ (vs i).ownBlock ≠ (vs k).ownBlock := fun i hi hne => H.apart i k hi hk hne
  refine ⟨fun i hi => hg.cell (C.cell i hi) (fun e => H.table k hk e.symm), fun i hi => hg.cell (C.was i hi) (fun e => by have := hvk _ e.symm; simp at this), fun i hi => (C.new i hi).kept hg ?_, fun i h1 hi => ?_, fun i h1 hi => ?_, ?_, fun g hlt hn => (hg.block g (by omega) (fun e => hn k hk e.symm)).trans (C.keep g hlt hn)⟩
  · cases hb : (us i).ownBlock with
    | none => exact .inl rfl
    | some b =>
      refine .inr fun e => ?_
      have h1 := (C.new i hi).block b hb
      have h2 := hvk b e.symm
      omega
  · by_cases e : i = k
    · subst e; exact ho
    · exact (C.done i (by omega) hi).kept hg (other i hi e)
  · exact (C.left i (by omega) hi).kept hg (other i hi (by omega))
  · exact C.below.grown hg (by omega) (fun b hb => (hvk b hb).1)



/-- Two lists in a table. -/
def two {α : Type} (a b : α) : Nat → α | 0 => a | _ => b

end Go.Proofs.Ytofbnkeglhhnlaa

/- The contracts of overOps and ApartOps. -/
namespace Go.Proofs.Ytofbnkeglhhnlaa
open Go.RowKit
set_option linter.unusedVariables false

/-- An op whose key is written over. -/
def til (o : Bm.Ov) : Bm.Ov := ⟨o.p, o.k ++ ⟨#[126]⟩, o.v⟩

/-- The first k written over. -/
def mid (l : List Bm.Ov) (k : Nat) : List Bm.Ov := (l.map til).take k ++ l.drop k

theorem mid_len (l : List Bm.Ov) (k : Nat) (h : k ≤ l.length) : (mid l k).length = l.length := by
  unfold mid
  rw [List.length_append, List.length_take, List.length_map, List.length_drop]
  omega

theorem mid_split (l : List Bm.Ov) (k : Nat) (h : k < l.length) : mid l k = (l.map til).take k ++ l[k] :: l.drop (k + 1) := by
  unfold mid
  rw [List.drop_eq_getElem_cons h]

theorem mid_next (l : List Bm.Ov) (k : Nat) (h : k < l.length) : mid l (k + 1) = (l.map til).take k ++ til l[k] :: l.drop (k + 1) := by
  unfold mid
  rw [List.take_succ_eq_append_getElem (by simpa using h), List.getElem_map, List.append_assoc]
  rfl

theorem midO_at (l : List Bm.Ov) (k : Nat) (h : k < l.length) : (ocells (mid l k))[k * 3 + 1]? = some (.string l[k].k) := by
  have hl : (ocells ((l.map til).take k)).length = k * 3 := by rw [ocells_len, List.length_take, List.length_map]; omega
  rw [mid_split l k h, ocells_app, List.getElem?_append_right (by omega), hl, show k * 3 + 1 - k * 3 = 1 by omega]
  rfl

theorem midO_set (l : List Bm.Ov) (k : Nat) (h : k < l.length) : (ocells (mid l k)).set (k * 3 + 1) (.string (l[k].k ++ ⟨#[126]⟩)) = ocells (mid l (k + 1)) := by
  have hl : (ocells ((l.map til).take k)).length = k * 3 := by rw [ocells_len, List.length_take, List.length_map]; omega
  rw [mid_split l k h, mid_next l k h, ocells_app, ocells_app, List.set_append_right _ _ (by omega), hl, show k * 3 + 1 - k * 3 = 1 by omega]
  rfl

/-- What stands in the spare room then. -/
def overC : List Value := [.bool false, .string ⟨#[111, 118, 101, 114]⟩, .string ⟨#[]⟩]

theorem cells_three_new (w : World) (x y z : Value) (t : TypeId) : ∀ j u, [x, y, z][j]? = some u → (w.alloc (.cells #[x, y, z] t)).cell? ((⟨w.heap.size, 0, none⟩ : Addr).add j) = some u := by
  intro j u hj
  rw [add_at]
  match j, hj with
  | 0, hj => simpa using hj
  | 1, hj => simpa using hj
  | 2, hj => simpa using hj
  | n + 3, hj => simp at hj

theorem own_frontO {w : World} {base e g n cap : Nat} {xs : List Value} (h : w.ownsRow base e 3 (.slice (some ⟨g, 0, none⟩) n cap) n xs) (m : Nat) (hm : m ≤ n) : w.ownsRow base e 3 (.slice (some ⟨g, 0, none⟩) m cap) m (xs.take (m * 3)) := by
  obtain ⟨h1, h2⟩ := h
  refine ⟨by rw [List.length_take]; omega, ?_⟩
  rcases h2 with ⟨h', _⟩ | ⟨g', cap', cur, h', hb, hg, hnc, hcm, hcs, htake⟩
  · simp at h'
  · simp only [Value.slice.injEq, Option.some.injEq, Addr.mk.injEq, and_true, true_and] at h'
    obtain ⟨rfl, rfl⟩ := h'
    refine .inr ⟨g, cap, cur, rfl, hb, hg, by omega, hcm, hcs, ?_⟩
    rw [← htake, List.take_take]
    congr 1
    omega

set_option maxHeartbeats 400000 in
theorem overO_full (g n cap base : Nat) (l : List Bm.Ov) (w : World) (hn : l.length = n) (hf : FitO l) (hown : w.ownsRow base 36 3 (.slice (some ⟨g, 0, none⟩) n cap) n (ocells l)) (hcm : cap ≤ maxLen) (hnc : n ≤ cap) :
    Calls Try.prog 38 #[.slice (some ⟨g, 0, none⟩) n cap] w fun e w' => e = .returned (.tuple #[]) ∧ w'.ownsRow base 36 3 (.slice (some ⟨g, 0, none⟩) n cap) n (ocells (l.map til)) ∧ w.grownBy w' (some g) := by
  unfold maxLen at hcm
  obtain ⟨i0, hi, hz0, hz1, hz2⟩ := info_parts Try.info36
  have HF := hide hf
  clear hf
  go_enter Try.func38, Try.ntmps38
  go_wp2
  go_loopw [3] (fun i wr => ∃ (k : Nat), k ≤ n ∧ i = .int .i64 k ∧ wr.ownsRow base 36 3 (.slice (some ⟨g, 0, none⟩) n cap) n (ocells (mid l k)) ∧ w.grownBy wr (some g)) (fun i _ => n - (intOf i).toNat)
  case atStart => exact ⟨0, by omega, rfl, by simpa [mid] using hown, World.grownBy.refl _ _⟩
  case round =>
    obtain ⟨k, hk, rfl, ho, hg⟩ := hrel
    by_cases hlt : k < n
    · have hz : k < l.length := by omega
      have g1 : wr.cell? ⟨g, k * 3 + 1, none⟩ = some (.string l[k].k) := by rw [ho.cellAt (k * 3 + 1) (by omega)]; exact midO_at l k hz
      have g2 := ho.frozenAt (k * 3 + 1)
      have hlt' : (k : Int) < n := by omega
      have hs := ho.stored (k * 3 + 1) (.string (l[k].k ++ ⟨#[126]⟩))
      rw [midO_set l k hz] at hs
      have hfit : ¬ 9223372036854775807 < l[k].k.size + 1 := by have := (HF.out l[k] (List.getElem_mem hz)).1; omega
      have HS := hide hs
      have HG := hide hg
      generalize l[k].k = key at *
      clear hs ho hg
      go_wp2
      go_roundw
      case rel => exact ⟨k + 1, by omega, by go_num, HS.out.1, grown_trans HG.out HS.out.2⟩
      case measure => simp [intOf]; omega
    · have hkn : k = n := by omega
      have ho2 : wr.ownsRow base 36 3 (.slice (some ⟨g, 0, none⟩) n cap) n (ocells (l.map til)) := by
        have h1 : mid l k = l.map til := by
          unfold mid
          rw [List.take_of_length_le (by simp; omega), List.drop_eq_nil_of_le (by omega), List.append_nil]
        rw [h1] at ho
        exact ho
      obtain ⟨cs, hcs⟩ : ∃ cs, cs = ocells (l.map til) := ⟨_, rfl⟩
      rw [← hcs] at ho2
      have HCS := hide hcs
      clear ho hkn hcs
      go_wp2
      go_loopw [0] (fun lv wr => ∃ (m : Nat) (ys : List Value), n ≤ m ∧ m ≤ cap ∧ lv = .slice (some ⟨g, 0, none⟩) m cap ∧ wr.ownsRow base 36 3 (.slice (some ⟨g, 0, none⟩) m cap) m (cs ++ ys) ∧ w.grownBy wr (some g)) (fun lv _ => cap - lenOf lv)
      case atStart => exact ⟨n, [], Nat.le_refl _, hnc, rfl, by simpa using ho2, hg⟩
      case round =>
        obtain ⟨m, ys, hm1, hm2, rfl, ho3, hg3⟩ := hrel
        clear ho2 hg
        by_cases hlt2 : m < cap
        · have hlt3 : (m : Int) < cap := by omega
          go_wp2_with (at_builtin; refine wpList_append_fits _ rfl (.tmp 26) (.tmp 28) 31 rfl base 36 i0 3 Try.underlying31 hi hz1 g m cap _ rfl (ho3.alloc _) ⟨wr.heap.size, 0, none⟩ 1 1 overC rfl rfl (cells_three_new _ _ _ _ _) (by intro u hu; simp [overC] at hu; rcases hu with rfl | rfl | rfl <;> rfl) (by omega) ?_)
          intro w2 ho4 hg4
          have hg5 := grown_trans hg3 (grown_trans (World.grownBy_alloc _ _ _) hg4)
          clear ho3 hg3 hg4
          go_wp2
          go_roundw
          case rel => exact ⟨m + 1, ys ++ overC, by omega, by omega, rfl, by simpa using ho4, hg5⟩
          case measure => simp [lenOf]; omega
        · go_wp2
          go_end0
          refine ⟨rfl, ?_, hg3⟩
          have := own_frontO ho3 n hm1
          rw [List.take_left' (by rw [HCS.out, ocells_len, List.length_map, hn]), HCS.out] at this
          exact this

theorem overO_any (v : Value) (l : List Bm.Ov) (base : Nat) (w : World) (h : OwnO 36 base w v l) (hf : FitO l) :
    Calls Try.prog 38 #[v] w fun e w' => e = .returned (.tuple #[]) ∧ OwnO 36 base w' v (l.map til) ∧ w.grownBy w' v.ownBlock := by
  rcases h.2 with ⟨hv, hn⟩ | ⟨g, cap, cur, hv, h1, hh, hc, hm, hs, ht⟩
  · have hz : l = [] := List.eq_nil_of_length_eq_zero hn
    subst hz hv
    go_enter Try.func38, Try.ntmps38
    go_wp2
    refine wp_loop_rounds 1 ?_
    rw [rounds_succ]
    go_wp2
    refine wp_loop_rounds 1 ?_
    rw [rounds_succ]
    go_wp2
    go_end0
    exact ⟨rfl, OwnO.nil _ _ _, World.grownBy.refl _ _⟩
  · subst hv
    refine (overO_full g l.length cap base l w rfl hf h hm hc).mono ?_
    rintro e w' ⟨rfl, ho, hg⟩
    exact ⟨rfl, by unfold OwnO; rw [List.length_map]; exact ho, hg⟩

theorem Try.info31 : (Try.prog.info? 31).map (fun i => (i.zero, i.size, i.bytes)) = some (some (.slice none 0 0), 1, 24) := by kernel_rfl

theorem sameO_bool (va vb : Value) (xs : List Bm.Ov) (w : World) (ha : IsO w va xs) (hb : IsO w vb xs) (hl : xs.length ≤ 140737488355328) :
    Calls Try.prog 15 #[va, vb] w fun e w' => e = .returned (.bool true) ∧ ∃ m, w' = w.drewN m := by
  have := sameO_quiet va vb xs xs w ha hb hl hl
  rw [Bm.sameL_self] at this
  exact this

/-- What the lists are, ahead of ApartOps. -/
structure ListsO (m bl base : Nat) (w : World) (vs : Nat → Value) (zs : Nat → List Bm.Ov) : Prop where
  cell : ∀ i, i < m → w.cell? ⟨bl, i, none⟩ = some (vs i)
  own : ∀ i, i < m → OwnO 36 base w (vs i) (zs i)
  apart : ∀ i j, i < m → j < m → i ≠ j → (vs i).ownBlock = none ∨ (vs i).ownBlock ≠ (vs j).ownBlock
  table : ∀ i, i < m → (vs i).ownBlock ≠ some bl
  lens : ∀ i, i < m → (zs i).length ≤ 2000
  fit : ∀ i, i < m → FitO (zs i)

/-- A block that one of the lists has. -/
def OwnsB (m : Nat) (vs : Nat → Value) (g : Nat) : Prop := ∃ i, i < m ∧ (vs i).ownBlock = some g

/-- Behind the first loop: a copy of each. -/
structure CopiesO (m bl base : Nat) (w0 wr : World) (vs us : Nat → Value) (zs : Nat → List Bm.Ov) (k : Nat) : Prop where
  cell : ∀ i, i < m → wr.cell? ⟨bl, i, none⟩ = some (vs i)
  was : ∀ i, i < m → wr.cell? ⟨w0.heap.size, i, none⟩ = some (us i)
  new : ∀ i, i < m → OwnO 36 (w0.heap.size + 1) wr (us i) (zs i)
  done : ∀ i, i < k → i < m → OwnO 36 base wr (vs i) ((zs i).map til)
  left : ∀ i, k ≤ i → i < m → OwnO 36 base wr (vs i) (zs i)
  below : Out (OwnsB m vs) w0 wr

theorem copiesO_step {m B k : Nat} {w wr w1 : World} {xs : List Value} {u : Value} {zs : Nat → List Bm.Ov} (hk : k < m) (ho : w1.ownsRow B 31 1 (.slice (some ⟨B, 0, none⟩) m m) m xs)
    (hc : ∀ j, j < k → OwnO 36 (B + 1) wr (xs.getD j (.slice none 0 0)) (zs j)) (bel : Below B w wr) (hs : B < wr.heap.size) (ownu : OwnO 36 wr.heap.size w1 u (zs k)) (belu : Below wr.heap.size wr w1) :
    (w1.setCell ⟨B, k, none⟩ u).ownsRow B 31 1 (.slice (some ⟨B, 0, none⟩) m m) m (xs.set k u) ∧ (∀ j, j < k + 1 → OwnO 36 (B + 1) (w1.setCell ⟨B, k, none⟩ u) ((xs.set k u).getD j (.slice none 0 0)) (zs j)) ∧
      Below B w (w1.setCell ⟨B, k, none⟩ u) ∧ B < (w1.setCell ⟨B, k, none⟩ u).heap.size := by
  have hst := ho.stored k u
  have hl : xs.length = m := by have := ho.1; omega
  refine ⟨hst.1, fun j hj => ?_, (bel.trans (belu.mono (by omega))).setCell (Nat.le_refl _) _, ?_⟩
  · by_cases hjk : j = k
    · subst hjk
      have e : (xs.set j u).getD j (.slice none 0 0) = u := by simp [hl, hk]
      rw [e]
      refine (ownu.rebase (by omega)).kept hst.2 ?_
      cases hb : u.ownBlock with
      | none => exact .inl rfl
      | some b => exact .inr (by have := ownu.block b hb; simp; omega)
    · have e : (xs.set k u).getD j (.slice none 0 0) = xs.getD j (.slice none 0 0) := by
        simp [List.getD, List.getElem?_set_ne (Ne.symm hjk)]
      rw [e]
      have h1 := hc j (by omega)
      refine (h1.below belu).kept hst.2 ?_
      cases hb : (xs.getD j (.slice none 0 0)).ownBlock with
      | none => exact .inl rfl
      | some b => exact .inr (by have := h1.block b hb; simp; omega)
  · have := hst.2.size
    have := belu.size
    omega

theorem copiesO_start {m bl B base : Nat} {w wr : World} {xs : List Value} {vs : Nat → Value} {zs : Nat → List Bm.Ov} (hB : B = w.heap.size) (hm0 : 0 < m) (hbase : base ≤ B) (H : ListsO m bl base w vs zs) (ho : wr.ownsRow B 31 1 (.slice (some ⟨B, 0, none⟩) m m) m xs)
    (hc : ∀ j, j < m → OwnO 36 (B + 1) wr (xs.getD j (.slice none 0 0)) (zs j)) (bel : Below B w wr) : CopiesO m bl base w wr vs (fun j => xs.getD j (.slice none 0 0)) zs 0 := by
  subst hB
  have hl : xs.length = m := by have := ho.1; omega
  exact ⟨fun i hi => (bel.cell (p := ⟨bl, i, none⟩) (World.block_lt_of_cell? _ _ (H.cell i hi))).trans (H.cell i hi),
    fun i hi => by rw [ho.cellAt i (by omega)]; simp [List.getD, List.getElem?_eq_getElem (show i < xs.length by omega)],
    hc, fun i h0 => absurd h0 (by omega), fun i _ hi => (H.own i hi).below bel, Out.of_below bel⟩

theorem copiesO_over {m bl base k : Nat} {w wr w2 : World} {vs us : Nat → Value} {zs : Nat → List Bm.Ov} (hk : k < m) (hbase : base ≤ w.heap.size) (hsz : w.heap.size ≤ wr.heap.size) (H : ListsO m bl base w vs zs) (C : CopiesO m bl base w wr vs us zs k)
    (ho : OwnO 36 base w2 (vs k) ((zs k).map til)) (hg : wr.grownBy w2 (vs k).ownBlock) : CopiesO m bl base w w2 vs us zs (k + 1) := by
  have hvk : ∀ b, (vs k).ownBlock = some b → base ≤ b ∧ b < w.heap.size := (H.own k hk).block
  have other : ∀ i, i < m → i ≠ k → (vs i).ownBlock = none ∨ (vs i).ownBlock ≠ (vs k).ownBlock := fun i hi hne => H.apart i k hi hk hne
  refine ⟨fun i hi => hg.cell (C.cell i hi) (fun e => H.table k hk e.symm), fun i hi => hg.cell (C.was i hi) (fun e => by have := hvk _ e.symm; simp at this), fun i hi => (C.new i hi).kept hg ?_, fun i h1 hi => ?_, fun i h1 hi => ?_, ?_⟩
  · cases hb : (us i).ownBlock with
    | none => exact .inl rfl
    | some b =>
      refine .inr fun e => ?_
      have h1 := (C.new i hi).block b hb
      have h2 := hvk b e.symm
      omega
  · by_cases e : i = k
    · subst e; exact ho
    · exact (C.done i (by omega) hi).kept hg (other i hi e)
  · exact (C.left i (by omega) hi).kept hg (other i hi (by omega))
  · exact C.below.trans (Out.of_grown hg (fun b hb => ⟨k, hk, hb⟩)) (fun g h => .inl h)

set_option maxHeartbeats 1600000 in
theorem apartO_keeps (m bl cl base : Nat) (vs : Nat → Value) (zs : Nat → List Bm.Ov) (w : World) (hm : m ≤ 1000000) (hcl : m ≤ cl) (hbase : base ≤ w.heap.size) (h : ListsO m bl base w vs zs) (hm0 : 0 < m) :
    Calls Try.prog 24 #[.slice (some ⟨bl, 0, none⟩) m cl] w fun e w' => e = .returned (.bool true) ∧ Out (OwnsB m vs) w w' := by
  obtain ⟨i0, hi, hz0, hz1, hz2⟩ := info_parts Try.info31
  have hbl : bl < w.heap.size := World.block_lt_of_cell? _ _ (h.cell 0 hm0)
  have H := hide h
  clear h
  go_enter Try.func24, Try.ntmps24
  go_wp2_with (at_make; refine wpList_make_full _ rfl _ _ 54 rfl w.heap.size 31 i0 (.slice none 0 0) 1 Try.underlying54 hi hz0 hz1 _ _ _ _ m rfl rfl (by omega) (by omega) ?b2 ?b3 (Nat.le_refl _) ?_)
  case b2 => rw [hz2]; omega
  case b3 => unfold maxLen; omega
  intro w0 hown0 hgrow0
  have bel0 : Below w.heap.size w w0 := (Below.refl _ _).grown hgrow0 (Nat.le_refl _) (by simp)
  obtain ⟨xs0, hown1⟩ : ∃ xs0, w0.ownsRow w.heap.size 31 1 (.slice (some ⟨w.heap.size, 0, none⟩) m m) m xs0 := ⟨_, hown0⟩
  clear hown0 hgrow0
  go_wp2
  go_loopw [4] (fun ii wr => ∃ (k : Nat) (xs : List Value), k ≤ m ∧ ii = .int .i64 k ∧ wr.ownsRow w.heap.size 31 1 (.slice (some ⟨w.heap.size, 0, none⟩) m m) m xs ∧ (∀ j, j < k → OwnO 36 (w.heap.size + 1) wr (xs.getD j (.slice none 0 0)) (zs j)) ∧ Below w.heap.size w wr ∧ w.heap.size < wr.heap.size) (fun ii _ => m - (intOf ii).toNat)
  case atStart => exact ⟨0, xs0, by omega, rfl, hown1, fun j hj => absurd hj (by omega), bel0, (hown1.lt _ rfl).2⟩
  case round =>
    clear hown1 bel0
    obtain ⟨k, xs, hk, rfl, ho, hcop, bel, hsz⟩ := hrel
    have HC := hide hcop
    clear hcop
    by_cases hlt : k < m
    · have g1 := (bel.cell (p := ⟨bl, k, none⟩) hbl).trans (H.out.cell k hlt)
      have hlt' : (k : Int) < m := by omega
      have hxl : xs.length = m := by have := ho.1; omega
      go_wp2_with (go_at_call 37; refine (copyO_any _ _ _ (((H.out.own k hlt).is).below bel) (by have := H.out.lens k hlt; omega)).mono ?_; rintro E w1 ⟨u, rfl, ownu, belu⟩; have ho1 := ownrow_below ho belu; have g2 := (ho1.cellAt k (by omega)).trans (List.getElem?_eq_getElem (by rw [hxl]; exact hlt)); have g3 := ho1.frozenAt k; obtain ⟨au, cu, rfl, _, _⟩ := ownu.is.shape)
      have R := copiesO_step hlt ho1 HC.out bel hsz ownu belu
      clear ho1 ownu belu g1 g2 g3 ho
      go_roundw
      case rel => exact ⟨k + 1, xs.set k _, by omega, by go_num, R.1, R.2.1, R.2.2.1, R.2.2.2⟩
      case measure => simp [intOf]; omega
    · have hkm : k = m := by omega
      have C0 := copiesO_start rfl hm0 hbase H.out ho (by have := HC.out; rw [hkm] at this; exact this) bel
      generalize (fun j => xs.getD j (.slice none 0 0)) = us at C0
      clear ho HC hkm
      go_wp2
      go_loopw [5] (fun ii wr => ∃ (k : Nat), k ≤ m ∧ ii = .int .i64 k ∧ CopiesO m bl base w wr vs us zs k ∧ w.heap.size < wr.heap.size) (fun ii _ => m - (intOf ii).toNat)
      case atStart => exact ⟨0, by omega, rfl, C0, hsz⟩
      case round =>
        clear C0 bel hsz hlt hk
        obtain ⟨i, hi, rfl, C, hsz⟩ := hrel
        have HC := hide C
        by_cases hlt : i < m
        · have g1 := C.cell i hlt
          have g2 := C.was i hlt
          have hlt' : (i : Int) < m := by omega
          have o1 := C.left i (Nat.le_refl _) hlt
          have o2 := C.new i hlt
          have hl := H.out.lens i hlt
          clear C
          go_wp2
          go_quiet ((go_at_call 15; refine Calls.quiet_of (sameO_bool _ _ (zs i) _ (o1.is.drewN _) (o2.is.drewN _) (by omega))))
          go_wp2_with fail
          refine (overO_any _ _ base _ (o1.below (below_drewN (Below.refl _ _) nq)) (H.out.fit i hlt)).mono ?_
          rintro E w2 ⟨rfl, o3, hg3⟩
          have C2 := copiesO_over hlt hbase (by omega) H.out HC.out o3 (grown_trans (grown_drewN _ _ _) hg3)
          have hs2 : w.heap.size < w2.heap.size := by have := hg3.size; simp at this; omega
          clear o1 o2 o3 hg3 HC g1 g2 hl
          go_wp2
          go_roundw
          case rel => exact ⟨i + 1, by omega, by go_num, C2, hs2⟩
          case measure => simp [intOf]; omega
        · have him : i = m := by omega
          subst him
          clear hlt
          go_wp2
          go_loopw [6, 7] (fun ii _ wx => ∃ (k n : Nat), k ≤ i ∧ ii = .int .i64 k ∧ wx = wr.drewN n) (fun ii _ _ => i - (intOf ii).toNat)
          case atStart => exact ⟨0, 0, by omega, rfl, rfl⟩
          case round =>
            obtain ⟨k, n, hk, rfl, rfl⟩ := hrel
            by_cases hlt : k < i
            · have g1 := C.cell k hlt
              have g2 := C.was k hlt
              have hlt' : (k : Int) < i := by omega
              have o1 := C.done k hlt hlt
              have o2 := C.new k hlt
              have hl := H.out.lens k hlt
              have HF := hide (H.out.fit k hlt)
              clear C
              by_cases hz : 0 < (zs k).length
              · obtain ⟨b1, f1, c1, hv1, hc1, hm1, _, he1⟩ := o1.is.full (by simpa using hz)
                obtain ⟨b2, f2, c2, hv2, hc2, hm2, _, he2⟩ := o2.is.full hz
                rw [hv1, List.length_map] at g1
                rw [hv2] at g2
                rw [List.length_map] at hc1
                have H1 := hide he1
                have H2 := hide he2
                clear he1 he2 hv1 hv2 o1 o2
                generalize hL : (zs k).length = L at *
                have HLL := hide hL
                clear hL
                go_wp2
                go_loopw [7] (fun kk wx => ∃ (j n : Nat), j ≤ L ∧ kk = .int .i64 j ∧ wx = wr.drewN n) (fun kk _ => L - (intOf kk).toNat)
                case atStart => exact ⟨0, n, by omega, rfl, rfl⟩
                case round =>
                  obtain ⟨j, n2, hj, rfl, rfl⟩ := hrel
                  by_cases hjl : j < L
                  · have hjl' : (j : Int) < L := by omega
                    obtain ⟨o, ho⟩ : ∃ o, (zs k)[j]? = some o := ⟨(zs k)[j]'(by rw [HLL.out]; exact hjl), by rw [List.getElem?_eq_getElem]⟩
                    have g3 := (H1.out j (til o) (by rw [List.getElem?_map, ho]; rfl)).2.1
                    have g4 := (H2.out j o ho).2.1
                    have hfo := (HF.out o (List.mem_of_getElem? ho)).1
                    have e3 : (til o).k = o.k ++ ⟨#[126]⟩ := rfl
                    rw [e3] at g3
                    have hfit : ¬ 9223372036854775807 < o.k.size + 1 := by omega
                    clear ho e3
                    generalize o.k = key at *
                    go_wp2
                    go_quiet (fail)
                    go_wp2
                    go_roundw
                    case rel => exact ⟨j + 1, _, by omega, by go_num, rfl⟩
                    case measure => simp [intOf]; omega
                  · go_wp2
                    go_roundw
                    case rel => exact ⟨k + 1, _, by omega, by go_num, rfl⟩
                    case measure => simp [intOf]; omega
              · obtain ⟨a1, c1, hv1, hc1, hm1⟩ := o1.is.shape
                have hz0 : (zs k).length = 0 := by omega
                rw [hv1, List.length_map, hz0] at g1
                clear hv1 hc1 o1 o2 g2 hl hz0 hz
                go_wp2
                refine wp_loop_rounds 1 ?_
                rw [rounds_succ]
                go_wp2
                go_roundw
                case rel => exact ⟨k + 1, _, by omega, by go_num, rfl⟩
                case measure => simp [intOf]; omega
            · go_wp2
              go_ret
              exact ⟨rfl, C.below.drew _⟩

theorem apartO_yes (m bl cl base : Nat) (vs : Nat → Value) (zs : Nat → List Bm.Ov) (w : World) (hm : m ≤ 1000000) (hcl : m ≤ cl) (hbase : base ≤ w.heap.size) (h : ListsO m bl base w vs zs) (hm0 : 0 < m) :
    Calls Try.prog 24 #[.slice (some ⟨bl, 0, none⟩) m cl] w fun e w' => e = .returned (.bool true) ∧ Below base w w' :=
  (apartO_keeps m bl cl base vs zs w hm hcl hbase h hm0).mono (by
    rintro E w' ⟨h1, h2⟩
    exact ⟨h1, h2.below (fun g hg => by obtain ⟨i, hi, e⟩ := hg; exact ((h.own i hi).block g e).1) hbase⟩)

/-- Two lists in a table. -/
def duo {α : Type} (a b : α) : Nat → α | 0 => a | _ => b

theorem listsO_two {base : Nat} {w : World} {va vf : Value} {za zf : List Bm.Ov} {s1 : Nat} (ha : OwnO 36 s1 w va za) (hf : OwnO 36 base w vf zf)
    (h1 : ∀ b, vf.ownBlock = some b → b < s1) (hb1 : base ≤ s1) (la : za.length ≤ 2000) (lf : zf.length ≤ 2000) (fa : FitO za) (ff : FitO zf) :
    ListsO 2 w.heap.size base (w.alloc (.cells #[vf, va] 31)) (duo vf va) (duo zf za) := by
  have bel : Below w.heap.size w (w.alloc (.cells #[vf, va] 31)) := (Below.refl _ _).alloc (Nat.le_refl _) _
  have ha' := (ha.below bel).rebase (by omega : base ≤ s1)
  have hf' := hf.below bel
  have two : ∀ i, i < 2 → i = 0 ∨ i = 1 := by omega
  have ba := ha.block
  have bf := hf.block
  refine ⟨fun i hi => ?_, fun i hi => ?_, fun i j hi hj hne => ?_, fun i hi => ?_, fun i hi => ?_, fun i hi => ?_⟩
  · rcases two i hi with rfl | rfl <;> simp [duo]
  · rcases two i hi with rfl | rfl
    · exact hf'
    · exact ha'
  · have key : ∀ u v : Value, (∀ b d, u.ownBlock = some b → v.ownBlock = some d → b ≠ d) → u.ownBlock = none ∨ u.ownBlock ≠ v.ownBlock := by
      intro u v h
      cases hu : u.ownBlock with
      | none => exact .inl rfl
      | some b => exact .inr fun e => h b b hu e.symm rfl
    rcases two i hi with rfl | rfl <;> rcases two j hj with rfl | rfl <;> first | exact absurd rfl hne | skip
    all_goals
      refine key _ _ fun b d hb hd => ?_
      simp only [duo] at hb hd
    · have := h1 b hb; have := ba d hd; omega
    · have := ba b hb; have := h1 d hd; omega
  · intro e
    rcases two i hi with rfl | rfl
    · have := bf _ e; omega
    · have := ba _ e; omega
  · rcases two i hi with rfl | rfl
    · exact lf
    · exact la
  · rcases two i hi with rfl | rfl
    · exact ff
    · exact fa

end Go.Proofs.Ytofbnkeglhhnlaa
