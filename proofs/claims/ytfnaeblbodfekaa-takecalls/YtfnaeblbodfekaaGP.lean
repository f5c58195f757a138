/- Texts of one layer, one behind the other. -/
import Derived.Test.YtfnaeblbodfekaaG2
import Derived.Test.YtfnaeblbodfekaaG7
import Derived.Test.YtfnaeblbodfekaaG6
import Derived.Test.YtfnaeblbodfekaaG8
import Derived.Deep.RegionHeld3
/- The contracts of OverBytes and ApartBytes. -/
namespace Go.Proofs.Ytfnaeblbodfekaa
open Go.RowKit
set_option linter.unusedVariables false


/-- Go's complement of a byte, as the walk spells it. -/
def cpl (z : Int) : Int := bits BinOp.xor IntKind.u8 (if IntKind.u8.signed = true then -1 else IntKind.u8.max) z

theorem cpl_wf (z : Int) : (Lit.int .u8 (cpl z)).wf = true := wf_bits _ _ _ _

theorem mid_at (zs : List Int) (k : Nat) (h : k < zs.length) : (((zs.map cpl).take k ++ zs.drop k).map (Value.int .u8))[k]? = some (.int .u8 zs[k]) := by
  have hl : ((zs.map cpl).take k).length = k := by rw [List.length_take, List.length_map]; omega
  rw [List.getElem?_map, List.getElem?_append_right (by omega), hl, Nat.sub_self, List.drop_eq_getElem_cons h]
  rfl

theorem mid_set (zs : List Int) (k : Nat) (h : k < zs.length) : (((zs.map cpl).take k ++ zs.drop k).map (Value.int .u8)).set k (.int .u8 (cpl zs[k])) = ((zs.map cpl).take (k + 1) ++ zs.drop (k + 1)).map (Value.int .u8) := by
  have hl : ((zs.map cpl).take k).length = k := by rw [List.length_take, List.length_map]; omega
  have hl2 : (((zs.map cpl).take k).map (Value.int .u8)).length = k := by rw [List.length_map, hl]
  rw [List.drop_eq_getElem_cons h, List.map_append, List.set_append_right _ _ (by omega), hl2, Nat.sub_self, List.take_succ_eq_append_getElem (by simpa using h), List.map_cons, List.set_cons_zero]
  simp only [List.map_append, List.map_cons, List.append_assoc, List.cons_append, List.nil_append, List.getElem_map]





/-- What the lists are, ahead of ApartBytes. -/
structure Lists (m bl base : Nat) (w : World) (vs : Nat → Value) (zs : Nat → List Int) : Prop where
  cell : ∀ i, i < m → w.cell? ⟨bl, i, none⟩ = some (vs i)
  own : ∀ i, i < m → Own .u8 5 base w (vs i) (zs i)
  apart : ∀ i j, i < m → j < m → i ≠ j → (vs i).ownBlock = none ∨ (vs i).ownBlock ≠ (vs j).ownBlock
  table : ∀ i, i < m → (vs i).ownBlock ≠ some bl
  lens : ∀ i, i < m → (zs i).length ≤ 150000000000000

/-- Behind the first loop: a copy of each. -/
structure Copies (m bl base : Nat) (w0 wr : World) (vs us : Nat → Value) (zs : Nat → List Int) (k : Nat) : Prop where
  cell : ∀ i, i < m → wr.cell? ⟨bl, i, none⟩ = some (vs i)
  was : ∀ i, i < m → wr.cell? ⟨w0.heap.size, i, none⟩ = some (us i)
  new : ∀ i, i < m → Own .u8 5 (w0.heap.size + 1) wr (us i) (zs i)
  done : ∀ i, i < k → i < m → Own .u8 5 base wr (vs i) ((zs i).map cpl)
  left : ∀ i, k ≤ i → i < m → Own .u8 5 base wr (vs i) (zs i)
  below : Below base w0 wr
  keep : ∀ g, g < w0.heap.size → (∀ i, i < m → (vs i).ownBlock ≠ some g) → wr.heap[g]? = w0.heap[g]?

theorem copies_over {m bl base k : Nat} {w wr w2 : World} {vs us : Nat → Value} {zs : Nat → List Int} (hk : k < m) (hbase : base ≤ w.heap.size) (hsz : w.heap.size ≤ wr.heap.size) (H : Lists m bl base w vs zs) (C : Copies m bl base w wr vs us zs k)
    (ho : Own .u8 5 base w2 (vs k) ((zs k).map cpl)) (hg : wr.grownBy w2 (vs k).ownBlock) : Copies m bl base w w2 vs us zs (k + 1) := by
  have hvk : ∀ b, (vs k).ownBlock = some b → base ≤ b ∧ b < w.heap.size := (H.own k hk).block
  have other : ∀ i, i < m → i ≠ k → (vs i).ownBlock = none ∨ (vs i).ownBlock ≠ (vs k).ownBlock := fun i hi hne => H.apart i k hi hk hne
  refine ⟨fun i hi => hg.cell (C.cell i hi) (fun e => H.table k hk e.symm), fun i hi => hg.cell (C.was i hi) (fun e => by have := hvk _ e.symm; simp at this), fun i hi => (C.new i hi).kept hg ?_, fun i h1 hi => ?_, fun i h1 hi => ?_, ?_, fun g hlt hn => (hg.block g (by omega) (fun e => hn k hk e.symm)).trans (C.keep g hlt hn)⟩
  · cases hb : (us i).ownBlock with
    | none => exact .inl rfl
    | some b =>
      refine .inr fun e => ?_
      have h1 := (C.new i hi).block b hb
      have h2 := hvk b e.symm
      omega
  · by_cases e : i = k
    · subst e; exact ho
    · exact (C.done i (by omega) hi).kept hg (other i hi e)
  · exact (C.left i (by omega) hi).kept hg (other i hi (by omega))
  · exact C.below.grown hg (by omega) (fun b hb => (hvk b hb).1)



/-- Two lists in a table. -/
def two {α : Type} (a b : α) : Nat → α | 0 => a | _ => b

end Go.Proofs.Ytfnaeblbodfekaa

/- The contracts of overOps and ApartOps. -/
namespace Go.Proofs.Ytfnaeblbodfekaa
open Go.RowKit
set_option linter.unusedVariables false

/-- An op whose key is written over. -/
def til (o : Bm.Ov) : Bm.Ov := ⟨o.p, o.k ++ ⟨#[126]⟩, o.v⟩

/-- The first k written over. -/
def mid (l : List Bm.Ov) (k : Nat) : List Bm.Ov := (l.map til).take k ++ l.drop k

theorem mid_len (l : List Bm.Ov) (k : Nat) (h : k ≤ l.length) : (mid l k).length = l.length := by
  unfold mid
  rw [List.length_append, List.length_take, List.length_map, List.length_drop]
  omega

theorem mid_split (l : List Bm.Ov) (k : Nat) (h : k < l.length) : mid l k = (l.map til).take k ++ l[k] :: l.drop (k + 1) := by
  unfold mid
  rw [List.drop_eq_getElem_cons h]

theorem mid_next (l : List Bm.Ov) (k : Nat) (h : k < l.length) : mid l (k + 1) = (l.map til).take k ++ til l[k] :: l.drop (k + 1) := by
  unfold mid
  rw [List.take_succ_eq_append_getElem (by simpa using h), List.getElem_map, List.append_assoc]
  rfl

theorem midO_at (l : List Bm.Ov) (k : Nat) (h : k < l.length) : (ocells (mid l k))[k * 3 + 1]? = some (.string l[k].k) := by
  have hl : (ocells ((l.map til).take k)).length = k * 3 := by rw [ocells_len, List.length_take, List.length_map]; omega
  rw [mid_split l k h, ocells_app, List.getElem?_append_right (by omega), hl, show k * 3 + 1 - k * 3 = 1 by omega]
  rfl

theorem midO_set (l : List Bm.Ov) (k : Nat) (h : k < l.length) : (ocells (mid l k)).set (k * 3 + 1) (.string (l[k].k ++ ⟨#[126]⟩)) = ocells (mid l (k + 1)) := by
  have hl : (ocells ((l.map til).take k)).length = k * 3 := by rw [ocells_len, List.length_take, List.length_map]; omega
  rw [mid_split l k h, mid_next l k h, ocells_app, ocells_app, List.set_append_right _ _ (by omega), hl, show k * 3 + 1 - k * 3 = 1 by omega]
  rfl

/-- What stands in the spare room then. -/
def overC : List Value := [.bool false, .string ⟨#[111, 118, 101, 114]⟩, .string ⟨#[]⟩]

theorem cells_three_new (w : World) (x y z : Value) (t : TypeId) : ∀ j u, [x, y, z][j]? = some u → (w.alloc (.cells #[x, y, z] t)).cell? ((⟨w.heap.size, 0, none⟩ : Addr).add j) = some u := by
  intro j u hj
  rw [add_at]
  match j, hj with
  | 0, hj => simpa using hj
  | 1, hj => simpa using hj
  | 2, hj => simpa using hj
  | n + 3, hj => simp at hj

theorem own_frontO {w : World} {base e g n cap : Nat} {xs : List Value} (h : w.ownsRow base e 3 (.slice (some ⟨g, 0, none⟩) n cap) n xs) (m : Nat) (hm : m ≤ n) : w.ownsRow base e 3 (.slice (some ⟨g, 0, none⟩) m cap) m (xs.take (m * 3)) := by
  obtain ⟨h1, h2⟩ := h
  refine ⟨by rw [List.length_take]; omega, ?_⟩
  rcases h2 with ⟨h', _⟩ | ⟨g', cap', cur, h', hb, hg, hnc, hcm, hcs, htake⟩
  · simp at h'
  · simp only [Value.slice.injEq, Option.some.injEq, Addr.mk.injEq, and_true, true_and] at h'
    obtain ⟨rfl, rfl⟩ := h'
    refine .inr ⟨g, cap, cur, rfl, hb, hg, by omega, hcm, hcs, ?_⟩
    rw [← htake, List.take_take]
    congr 1
    omega

set_option maxHeartbeats 400000 in
theorem overO_full (g n cap base : Nat) (l : List Bm.Ov) (w : World) (hn : l.length = n) (hf : FitO l) (hown : w.ownsRow base 59 3 (.slice (some ⟨g, 0, none⟩) n cap) n (ocells l)) (hcm : cap ≤ maxLen) (hnc : n ≤ cap) :
    Calls Try.prog 62 #[.slice (some ⟨g, 0, none⟩) n cap] w fun e w' => e = .returned (.tuple #[]) ∧ w'.ownsRow base 59 3 (.slice (some ⟨g, 0, none⟩) n cap) n (ocells (l.map til)) ∧ w.grownBy w' (some g) := by
  unfold maxLen at hcm
  obtain ⟨i0, hi, hz0, hz1, hz2⟩ := info_parts Try.info59
  have HF := hide hf
  clear hf
  go_enter Try.func62, Try.ntmps62
  go_wp2
  go_loopw [3] (fun i wr => ∃ (k : Nat), k ≤ n ∧ i = .int .i64 k ∧ wr.ownsRow base 59 3 (.slice (some ⟨g, 0, none⟩) n cap) n (ocells (mid l k)) ∧ w.grownBy wr (some g)) (fun i _ => n - (intOf i).toNat)
  case atStart => exact ⟨0, by omega, rfl, by simpa [mid] using hown, World.grownBy.refl _ _⟩
  case round =>
    obtain ⟨k, hk, rfl, ho, hg⟩ := hrel
    by_cases hlt : k < n
    · have hz : k < l.length := by omega
      have g1 : wr.cell? ⟨g, k * 3 + 1, none⟩ = some (.string l[k].k) := by rw [ho.cellAt (k * 3 + 1) (by omega)]; exact midO_at l k hz
      have g2 := ho.frozenAt (k * 3 + 1)
      have hlt' : (k : Int) < n := by omega
      have hs := ho.stored (k * 3 + 1) (.string (l[k].k ++ ⟨#[126]⟩))
      rw [midO_set l k hz] at hs
      have hfit : ¬ 9223372036854775807 < l[k].k.size + 1 := by have := (HF.out l[k] (List.getElem_mem hz)).1; omega
      have HS := hide hs
      have HG := hide hg
      generalize l[k].k = key at *
      clear hs ho hg
      go_wp2
      go_roundw
      case rel => exact ⟨k + 1, by omega, by go_num, HS.out.1, grown_trans HG.out HS.out.2⟩
      case measure => simp [intOf]; omega
    · have hkn : k = n := by omega
      have ho2 : wr.ownsRow base 59 3 (.slice (some ⟨g, 0, none⟩) n cap) n (ocells (l.map til)) := by
        have h1 : mid l k = l.map til := by
          unfold mid
          rw [List.take_of_length_le (by simp; omega), List.drop_eq_nil_of_le (by omega), List.append_nil]
        rw [h1] at ho
        exact ho
      obtain ⟨cs, hcs⟩ : ∃ cs, cs = ocells (l.map til) := ⟨_, rfl⟩
      rw [← hcs] at ho2
      have HCS := hide hcs
      clear ho hkn hcs
      go_wp2
      go_loopw [0] (fun lv wr => ∃ (m : Nat) (ys : List Value), n ≤ m ∧ m ≤ cap ∧ lv = .slice (some ⟨g, 0, none⟩) m cap ∧ wr.ownsRow base 59 3 (.slice (some ⟨g, 0, none⟩) m cap) m (cs ++ ys) ∧ w.grownBy wr (some g)) (fun lv _ => cap - lenOf lv)
      case atStart => exact ⟨n, [], Nat.le_refl _, hnc, rfl, by simpa using ho2, hg⟩
      case round =>
        obtain ⟨m, ys, hm1, hm2, rfl, ho3, hg3⟩ := hrel
        clear ho2 hg
        by_cases hlt2 : m < cap
        · have hlt3 : (m : Int) < cap := by omega
          go_wp2_with (at_builtin; refine wpList_append_fits _ rfl (.tmp 26) (.tmp 28) 48 rfl base 59 i0 3 Try.underlying48 hi hz1 g m cap _ rfl (ho3.alloc _) ⟨wr.heap.size, 0, none⟩ 1 1 overC rfl rfl (cells_three_new _ _ _ _ _) (by intro u hu; simp [overC] at hu; rcases hu with rfl | rfl | rfl <;> rfl) (by omega) ?_)
          intro w2 ho4 hg4
          have hg5 := grown_trans hg3 (grown_trans (World.grownBy_alloc _ _ _) hg4)
          clear ho3 hg3 hg4
          go_wp2
          go_roundw
          case rel => exact ⟨m + 1, ys ++ overC, by omega, by omega, rfl, by simpa using ho4, hg5⟩
          case measure => simp [lenOf]; omega
        · go_wp2
          go_end0
          refine ⟨rfl, ?_, hg3⟩
          have := own_frontO ho3 n hm1
          rw [List.take_left' (by rw [HCS.out, ocells_len, List.length_map, hn]), HCS.out] at this
          exact this

theorem overO_any (v : Value) (l : List Bm.Ov) (base : Nat) (w : World) (h : OwnO 59 base w v l) (hf : FitO l) :
    Calls Try.prog 62 #[v] w fun e w' => e = .returned (.tuple #[]) ∧ OwnO 59 base w' v (l.map til) ∧ w.grownBy w' v.ownBlock := by
  rcases h.2 with ⟨hv, hn⟩ | ⟨g, cap, cur, hv, h1, hh, hc, hm, hs, ht⟩
  · have hz : l = [] := List.eq_nil_of_length_eq_zero hn
    subst hz hv
    go_enter Try.func62, Try.ntmps62
    go_wp2
    refine wp_loop_rounds 1 ?_
    rw [rounds_succ]
    go_wp2
    refine wp_loop_rounds 1 ?_
    rw [rounds_succ]
    go_wp2
    go_end0
    exact ⟨rfl, OwnO.nil _ _ _, World.grownBy.refl _ _⟩
  · subst hv
    refine (overO_full g l.length cap base l w rfl hf h hm hc).mono ?_
    rintro e w' ⟨rfl, ho, hg⟩
    exact ⟨rfl, by unfold OwnO; rw [List.length_map]; exact ho, hg⟩

theorem Try.info48 : (Try.prog.info? 48).map (fun i => (i.zero, i.size, i.bytes)) = some (some (.slice none 0 0), 1, 24) := by kernel_rfl

theorem sameO_bool (va vb : Value) (xs : List Bm.Ov) (w : World) (ha : IsO w va xs) (hb : IsO w vb xs) (hl : xs.length ≤ 140737488355328) :
    Calls Try.prog 58 #[va, vb] w fun e w' => e = .returned (.bool true) ∧ ∃ m, w' = w.drewN m := by
  have := sameO_quiet va vb xs xs w ha hb hl hl
  rw [Bm.sameL_self] at this
  exact this

/-- What the lists are, ahead of ApartOps. -/
structure ListsO (m bl base : Nat) (w : World) (vs : Nat → Value) (zs : Nat → List Bm.Ov) : Prop where
  cell : ∀ i, i < m → w.cell? ⟨bl, i, none⟩ = some (vs i)
  own : ∀ i, i < m → OwnO 59 base w (vs i) (zs i)
  apart : ∀ i j, i < m → j < m → i ≠ j → (vs i).ownBlock = none ∨ (vs i).ownBlock ≠ (vs j).ownBlock
  table : ∀ i, i < m → (vs i).ownBlock ≠ some bl
  lens : ∀ i, i < m → (zs i).length ≤ 2000
  fit : ∀ i, i < m → FitO (zs i)

/-- A block that one of the lists has. -/
def OwnsB (m : Nat) (vs : Nat → Value) (g : Nat) : Prop := ∃ i, i < m ∧ (vs i).ownBlock = some g

/-- Behind the first loop: a copy of each. -/
structure CopiesO (m bl base : Nat) (w0 wr : World) (vs us : Nat → Value) (zs : Nat → List Bm.Ov) (k : Nat) : Prop where
  cell : ∀ i, i < m → wr.cell? ⟨bl, i, none⟩ = some (vs i)
  was : ∀ i, i < m → wr.cell? ⟨w0.heap.size, i, none⟩ = some (us i)
  new : ∀ i, i < m → OwnO 59 (w0.heap.size + 1) wr (us i) (zs i)
  done : ∀ i, i < k → i < m → OwnO 59 base wr (vs i) ((zs i).map til)
  left : ∀ i, k ≤ i → i < m → OwnO 59 base wr (vs i) (zs i)
  below : Out (OwnsB m vs) w0 wr

theorem copiesO_step {m B k : Nat} {w wr w1 : World} {xs : List Value} {u : Value} {zs : Nat → List Bm.Ov} (hk : k < m) (ho : w1.ownsRow B 48 1 (.slice (some ⟨B, 0, none⟩) m m) m xs)
    (hc : ∀ j, j < k → OwnO 59 (B + 1) wr (xs.getD j (.slice none 0 0)) (zs j)) (bel : Below B w wr) (hs : B < wr.heap.size) (ownu : OwnO 59 wr.heap.size w1 u (zs k)) (belu : Below wr.heap.size wr w1) :
    (w1.setCell ⟨B, k, none⟩ u).ownsRow B 48 1 (.slice (some ⟨B, 0, none⟩) m m) m (xs.set k u) ∧ (∀ j, j < k + 1 → OwnO 59 (B + 1) (w1.setCell ⟨B, k, none⟩ u) ((xs.set k u).getD j (.slice none 0 0)) (zs j)) ∧
      Below B w (w1.setCell ⟨B, k, none⟩ u) ∧ B < (w1.setCell ⟨B, k, none⟩ u).heap.size := by
  have hst := ho.stored k u
  have hl : xs.length = m := by have := ho.1; omega
  refine ⟨hst.1, fun j hj => ?_, (bel.trans (belu.mono (by omega))).setCell (Nat.le_refl _) _, ?_⟩
  · by_cases hjk : j = k
    · subst hjk
      have e : (xs.set j u).getD j (.slice none 0 0) = u := by simp [hl, hk]
      rw [e]
      refine (ownu.rebase (by omega)).kept hst.2 ?_
      cases hb : u.ownBlock with
      | none => exact .inl rfl
      | some b => exact .inr (by have := ownu.block b hb; simp; omega)
    · have e : (xs.set k u).getD j (.slice none 0 0) = xs.getD j (.slice none 0 0) := by
        simp [List.getD, List.getElem?_set_ne (Ne.symm hjk)]
      rw [e]
      have h1 := hc j (by omega)
      refine (h1.below belu).kept hst.2 ?_
      cases hb : (xs.getD j (.slice none 0 0)).ownBlock with
      | none => exact .inl rfl
      | some b => exact .inr (by have := h1.block b hb; simp; omega)
  · have := hst.2.size
    have := belu.size
    omega

theorem copiesO_start {m bl B base : Nat} {w wr : World} {xs : List Value} {vs : Nat → Value} {zs : Nat → List Bm.Ov} (hB : B = w.heap.size) (hm0 : 0 < m) (hbase : base ≤ B) (H : ListsO m bl base w vs zs) (ho : wr.ownsRow B 48 1 (.slice (some ⟨B, 0, none⟩) m m) m xs)
    (hc : ∀ j, j < m → OwnO 59 (B + 1) wr (xs.getD j (.slice none 0 0)) (zs j)) (bel : Below B w wr) : CopiesO m bl base w wr vs (fun j => xs.getD j (.slice none 0 0)) zs 0 := by
  subst hB
  have hl : xs.length = m := by have := ho.1; omega
  exact ⟨fun i hi => (bel.cell (p := ⟨bl, i, none⟩) (World.block_lt_of_cell? _ _ (H.cell i hi))).trans (H.cell i hi),
    fun i hi => by rw [ho.cellAt i (by omega)]; simp [List.getD, List.getElem?_eq_getElem (show i < xs.length by omega)],
    hc, fun i h0 => absurd h0 (by omega), fun i _ hi => (H.own i hi).below bel, Out.of_below bel⟩

theorem copiesO_over {m bl base k : Nat} {w wr w2 : World} {vs us : Nat → Value} {zs : Nat → List Bm.Ov} (hk : k < m) (hbase : base ≤ w.heap.size) (hsz : w.heap.size ≤ wr.heap.size) (H : ListsO m bl base w vs zs) (C : CopiesO m bl base w wr vs us zs k)
    (ho : OwnO 59 base w2 (vs k) ((zs k).map til)) (hg : wr.grownBy w2 (vs k).ownBlock) : CopiesO m bl base w w2 vs us zs (k + 1) := by
  have hvk : ∀ b, (vs k).ownBlock = some b → base ≤ b ∧ b < w.heap.size := (H.own k hk).block
  have other : ∀ i, i < m → i ≠ k → (vs i).ownBlock = none ∨ (vs i).ownBlock ≠ (vs k).ownBlock := fun i hi hne => H.apart i k hi hk hne
  refine ⟨fun i hi => hg.cell (C.cell i hi) (fun e => H.table k hk e.symm), fun i hi => hg.cell (C.was i hi) (fun e => by have := hvk _ e.symm; simp at this), fun i hi => (C.new i hi).kept hg ?_, fun i h1 hi => ?_, fun i h1 hi => ?_, ?_⟩
  · cases hb : (us i).ownBlock with
    | none => exact .inl rfl
    | some b =>
      refine .inr fun e => ?_
      have h1 := (C.new i hi).block b hb
      have h2 := hvk b e.symm
      omega
  · by_cases e : i = k
    · subst e; exact ho
    · exact (C.done i (by omega) hi).kept hg (other i hi e)
  · exact (C.left i (by omega) hi).kept hg (other i hi (by omega))
  · exact C.below.trans (Out.of_grown hg (fun b hb => ⟨k, hk, hb⟩)) (fun g h => .inl h)

set_option maxHeartbeats 1600000 in
theorem apartO_keeps (m bl cl base : Nat) (vs : Nat → Value) (zs : Nat → List Bm.Ov) (w : World) (hm : m ≤ 1000000) (hcl : m ≤ cl) (hbase : base ≤ w.heap.size) (h : ListsO m bl base w vs zs) (hm0 : 0 < m) :
    Calls Try.prog 42 #[.slice (some ⟨bl, 0, none⟩) m cl] w fun e w' => e = .returned (.bool true) ∧ Out (OwnsB m vs) w w' := by
  obtain ⟨i0, hi, hz0, hz1, hz2⟩ := info_parts Try.info48
  have hbl : bl < w.heap.size := World.block_lt_of_cell? _ _ (h.cell 0 hm0)
  have H := hide h
  clear h
  go_enter Try.func42, Try.ntmps42
  go_wp2_with (at_make; refine wpList_make_full _ rfl _ _ 67 rfl w.heap.size 48 i0 (.slice none 0 0) 1 Try.underlying67 hi hz0 hz1 _ _ _ _ m rfl rfl (by omega) (by omega) ?b2 ?b3 (Nat.le_refl _) ?_)
  case b2 => rw [hz2]; omega
  case b3 => unfold maxLen; omega
  intro w0 hown0 hgrow0
  have bel0 : Below w.heap.size w w0 := (Below.refl _ _).grown hgrow0 (Nat.le_refl _) (by simp)
  obtain ⟨xs0, hown1⟩ : ∃ xs0, w0.ownsRow w.heap.size 48 1 (.slice (some ⟨w.heap.size, 0, none⟩) m m) m xs0 := ⟨_, hown0⟩
  clear hown0 hgrow0
  go_wp2
  go_loopw [4] (fun ii wr => ∃ (k : Nat) (xs : List Value), k ≤ m ∧ ii = .int .i64 k ∧ wr.ownsRow w.heap.size 48 1 (.slice (some ⟨w.heap.size, 0, none⟩) m m) m xs ∧ (∀ j, j < k → OwnO 59 (w.heap.size + 1) wr (xs.getD j (.slice none 0 0)) (zs j)) ∧ Below w.heap.size w wr ∧ w.heap.size < wr.heap.size) (fun ii _ => m - (intOf ii).toNat)
  case atStart => exact ⟨0, xs0, by omega, rfl, hown1, fun j hj => absurd hj (by omega), bel0, (hown1.lt _ rfl).2⟩
  case round =>
    clear hown1 bel0
    obtain ⟨k, xs, hk, rfl, ho, hcop, bel, hsz⟩ := hrel
    have HC := hide hcop
    clear hcop
    by_cases hlt : k < m
    · have g1 := (bel.cell (p := ⟨bl, k, none⟩) hbl).trans (H.out.cell k hlt)
      have hlt' : (k : Int) < m := by omega
      have hxl : xs.length = m := by have := ho.1; omega
      go_wp2_with (go_at_call 61; refine (copyO_any _ _ _ (((H.out.own k hlt).is).below bel) (by have := H.out.lens k hlt; omega)).mono ?_; rintro E w1 ⟨u, rfl, ownu, belu⟩; have ho1 := ownrow_below ho belu; have g2 := (ho1.cellAt k (by omega)).trans (List.getElem?_eq_getElem (by rw [hxl]; exact hlt)); have g3 := ho1.frozenAt k; obtain ⟨au, cu, rfl, _, _⟩ := ownu.is.shape)
      have R := copiesO_step hlt ho1 HC.out bel hsz ownu belu
      clear ho1 ownu belu g1 g2 g3 ho
      go_roundw
      case rel => exact ⟨k + 1, xs.set k _, by omega, by go_num, R.1, R.2.1, R.2.2.1, R.2.2.2⟩
      case measure => simp [intOf]; omega
    · have hkm : k = m := by omega
      have C0 := copiesO_start rfl hm0 hbase H.out ho (by have := HC.out; rw [hkm] at this; exact this) bel
      generalize (fun j => xs.getD j (.slice none 0 0)) = us at C0
      clear ho HC hkm
      go_wp2
      go_loopw [5] (fun ii wr => ∃ (k : Nat), k ≤ m ∧ ii = .int .i64 k ∧ CopiesO m bl base w wr vs us zs k ∧ w.heap.size < wr.heap.size) (fun ii _ => m - (intOf ii).toNat)
      case atStart => exact ⟨0, by omega, rfl, C0, hsz⟩
      case round =>
        clear C0 bel hsz hlt hk
        obtain ⟨i, hi, rfl, C, hsz⟩ := hrel
        have HC := hide C
        by_cases hlt : i < m
        · have g1 := C.cell i hlt
          have g2 := C.was i hlt
          have hlt' : (i : Int) < m := by omega
          have o1 := C.left i (Nat.le_refl _) hlt
          have o2 := C.new i hlt
          have hl := H.out.lens i hlt
          clear C
          go_wp2
          go_quiet ((go_at_call 58; refine Calls.quiet_of (sameO_bool _ _ (zs i) _ (o1.is.drewN _) (o2.is.drewN _) (by omega))))
          go_wp2_with fail
          refine (overO_any _ _ base _ (o1.below (below_drewN (Below.refl _ _) nq)) (H.out.fit i hlt)).mono ?_
          rintro E w2 ⟨rfl, o3, hg3⟩
          have C2 := copiesO_over hlt hbase (by omega) H.out HC.out o3 (grown_trans (grown_drewN _ _ _) hg3)
          have hs2 : w.heap.size < w2.heap.size := by have := hg3.size; simp at this; omega
          clear o1 o2 o3 hg3 HC g1 g2 hl
          go_wp2
          go_roundw
          case rel => exact ⟨i + 1, by omega, by go_num, C2, hs2⟩
          case measure => simp [intOf]; omega
        · have him : i = m := by omega
          subst him
          clear hlt
          go_wp2
          go_loopw [6, 7] (fun ii _ wx => ∃ (k n : Nat), k ≤ i ∧ ii = .int .i64 k ∧ wx = wr.drewN n) (fun ii _ _ => i - (intOf ii).toNat)
          case atStart => exact ⟨0, 0, by omega, rfl, rfl⟩
          case round =>
            obtain ⟨k, n, hk, rfl, rfl⟩ := hrel
            by_cases hlt : k < i
            · have g1 := C.cell k hlt
              have g2 := C.was k hlt
              have hlt' : (k : Int) < i := by omega
              have o1 := C.done k hlt hlt
              have o2 := C.new k hlt
              have hl := H.out.lens k hlt
              have HF := hide (H.out.fit k hlt)
              clear C
              by_cases hz : 0 < (zs k).length
              · obtain ⟨b1, f1, c1, hv1, hc1, hm1, _, he1⟩ := o1.is.full (by simpa using hz)
                obtain ⟨b2, f2, c2, hv2, hc2, hm2, _, he2⟩ := o2.is.full hz
                rw [hv1, List.length_map] at g1
                rw [hv2] at g2
                rw [List.length_map] at hc1
                have H1 := hide he1
                have H2 := hide he2
                clear he1 he2 hv1 hv2 o1 o2
                generalize hL : (zs k).length = L at *
                have HLL := hide hL
                clear hL
                go_wp2
                go_loopw [7] (fun kk wx => ∃ (j n : Nat), j ≤ L ∧ kk = .int .i64 j ∧ wx = wr.drewN n) (fun kk _ => L - (intOf kk).toNat)
                case atStart => exact ⟨0, n, by omega, rfl, rfl⟩
                case round =>
                  obtain ⟨j, n2, hj, rfl, rfl⟩ := hrel
                  by_cases hjl : j < L
                  · have hjl' : (j : Int) < L := by omega
                    obtain ⟨o, ho⟩ : ∃ o, (zs k)[j]? = some o := ⟨(zs k)[j]'(by rw [HLL.out]; exact hjl), by rw [List.getElem?_eq_getElem]⟩
                    have g3 := (H1.out j (til o) (by rw [List.getElem?_map, ho]; rfl)).2.1
                    have g4 := (H2.out j o ho).2.1
                    have hfo := (HF.out o (List.mem_of_getElem? ho)).1
                    have e3 : (til o).k = o.k ++ ⟨#[126]⟩ := rfl
                    rw [e3] at g3
                    have hfit : ¬ 9223372036854775807 < o.k.size + 1 := by omega
                    clear ho e3
                    generalize o.k = key at *
                    go_wp2
                    go_quiet (fail)
                    go_wp2
                    go_roundw
                    case rel => exact ⟨j + 1, _, by omega, by go_num, rfl⟩
                    case measure => simp [intOf]; omega
                  · go_wp2
                    go_roundw
                    case rel => exact ⟨k + 1, _, by omega, by go_num, rfl⟩
                    case measure => simp [intOf]; omega
              · obtain ⟨a1, c1, hv1, hc1, hm1⟩ := o1.is.shape
                have hz0 : (zs k).length = 0 := by omega
                rw [hv1, List.length_map, hz0] at g1
                clear hv1 hc1 o1 o2 g2 hl hz0 hz
                go_wp2
                refine wp_loop_rounds 1 ?_
                rw [rounds_succ]
                go_wp2
                go_roundw
                case rel => exact ⟨k + 1, _, by omega, by go_num, rfl⟩
                case measure => simp [intOf]; omega
            · go_wp2
              go_ret
              exact ⟨rfl, C.below.drew _⟩

theorem apartO_yes (m bl cl base : Nat) (vs : Nat → Value) (zs : Nat → List Bm.Ov) (w : World) (hm : m ≤ 1000000) (hcl : m ≤ cl) (hbase : base ≤ w.heap.size) (h : ListsO m bl base w vs zs) (hm0 : 0 < m) :
    Calls Try.prog 42 #[.slice (some ⟨bl, 0, none⟩) m cl] w fun e w' => e = .returned (.bool true) ∧ Below base w w' :=
  (apartO_keeps m bl cl base vs zs w hm hcl hbase h hm0).mono (by
    rintro E w' ⟨h1, h2⟩
    exact ⟨h1, h2.below (fun g hg => by obtain ⟨i, hi, e⟩ := hg; exact ((h.own i hi).block g e).1) hbase⟩)

/-- Two lists in a table. -/
def duo {α : Type} (a b : α) : Nat → α | 0 => a | _ => b

theorem listsO_two {base : Nat} {w : World} {va vf : Value} {za zf : List Bm.Ov} {s1 : Nat} (ha : OwnO 59 s1 w va za) (hf : OwnO 59 base w vf zf)
    (h1 : ∀ b, vf.ownBlock = some b → b < s1) (hb1 : base ≤ s1) (la : za.length ≤ 2000) (lf : zf.length ≤ 2000) (fa : FitO za) (ff : FitO zf) :
    ListsO 2 w.heap.size base (w.alloc (.cells #[vf, va] 48)) (duo vf va) (duo zf za) := by
  have bel : Below w.heap.size w (w.alloc (.cells #[vf, va] 48)) := (Below.refl _ _).alloc (Nat.le_refl _) _
  have ha' := (ha.below bel).rebase (by omega : base ≤ s1)
  have hf' := hf.below bel
  have two : ∀ i, i < 2 → i = 0 ∨ i = 1 := by omega
  have ba := ha.block
  have bf := hf.block
  refine ⟨fun i hi => ?_, fun i hi => ?_, fun i j hi hj hne => ?_, fun i hi => ?_, fun i hi => ?_, fun i hi => ?_⟩
  · rcases two i hi with rfl | rfl <;> simp [duo]
  · rcases two i hi with rfl | rfl
    · exact hf'
    · exact ha'
  · have key : ∀ u v : Value, (∀ b d, u.ownBlock = some b → v.ownBlock = some d → b ≠ d) → u.ownBlock = none ∨ u.ownBlock ≠ v.ownBlock := by
      intro u v h
      cases hu : u.ownBlock with
      | none => exact .inl rfl
      | some b => exact .inr fun e => h b b hu e.symm rfl
    rcases two i hi with rfl | rfl <;> rcases two j hj with rfl | rfl <;> first | exact absurd rfl hne | skip
    all_goals
      refine key _ _ fun b d hb hd => ?_
      simp only [duo] at hb hd
    · have := h1 b hb; have := ba d hd; omega
    · have := ba b hb; have := h1 d hd; omega
  · intro e
    rcases two i hi with rfl | rfl
    · have := bf _ e; omega
    · have := ba _ e; omega
  · rcases two i hi with rfl | rfl
    · exact lf
    · exact la
  · rcases two i hi with rfl | rfl
    · exact ff
    · exact fa

end Go.Proofs.Ytfnaeblbodfekaa

/- The contracts of OpsOf and overCommits. -/
namespace Go.Proofs.Ytfnaeblbodfekaa
open Go.RowKit
set_option linter.unusedVariables false

/-- A value alone. -/
def one (v : Value) : List Value := [v]
theorem one_len (v : Value) : (one v).length = 1 := rfl

theorem gcells_one : ∀ (m : List Value), gcells one m = m
  | [] => rfl
  | v :: m => by
    have := gcells_one m
    simp only [gcells, one] at this ⊢
    rw [this]
    rfl

theorem row_keepT {e e' base size n : Nat} {w w' : World} {v : Value} {xs : List Value} (h : w.ownsRow base e size v n xs) (k : KeepT e' w w') (hne : e ≠ e') : w'.ownsRow base e size v n xs := by
  refine ⟨h.1, ?_⟩
  rcases h.2 with h | ⟨g, cap, cur, hv, h1, hh, r⟩
  · exact .inl h
  · exact .inr ⟨g, cap, cur, hv, h1, k _ _ _ _ hh hne, r⟩

/-- 'append(out, xs...)' of lists of ops. -/
theorem wpList_append_lls {w : World} {ops : Array Oper} {rest : List Oper} {o : Oper} {a : Act} {Q : Exit → Act → World → Prop} (hgd : o.guard = none) (s x : Operand)
    (ho : o.op = .call { callee := .builtin .append, args := #[s, x], argTypes := #[67, 67] })
    (base : Nat) (v : Value) (l : List Value) (hs : a.eval s = v) (hown : OwnG one 1 48 base w v l) (vx : Value) (m : List Value) (hx : a.eval x = vx) (his : RowG one w vx m) (hone : ∀ u ∈ m, u.oneCell' = true)
    (hlen : (l.length + m.length) * 24 ≤ 140737488355328) (hbase : base ≤ w.heap.size)
    (h : ∀ v' w', OwnG one 1 48 base w' v' (l ++ m) → Below base w w' → w.grownBy w' v.ownBlock → wpList Try.prog ops Q rest (a.put o.dst v') w') : wpList Try.prog ops Q (o :: rest) a w :=
  wpList_append_rows one 1 24 one_len (by decide) (by decide) (.slice none 0 0) rfl hgd s x 67 ho 48 base Try.underlying67 Try.info48 v l hs hown vx m hx his (fun u hu => hone u (by rw [gcells_one] at hu; exact hu)) hlen hbase
    fun v' w' h1 h2 => h v' w' h1 ((Below.refl _ _).grown h2 hbase fun k hk => (OwnG.lt hown k hk).1) h2

theorem lls_step (w : World) (v : Value) : ∃ W, w.alloc (.cells #[v] 48) = W ∧ W.heap.size = w.heap.size + 1 ∧ Below w.heap.size w W ∧ OwnG one 1 48 w.heap.size W (.slice (some ⟨w.heap.size, 0, none⟩) 1 1) [v] :=
  rows_step one 1 one_len 48 w #[v] 1 [v] rfl rfl (by simp [maxLen])

set_option maxHeartbeats 1000000 in
theorem opsOf_any (vl : Value) (r : List Cw) (w : World) (h : IsC w vl r) (hl : r.length ≤ 1000) :
    Calls Try.prog 40 #[vl] w fun E w' => ∃ v, E = .returned v ∧ OwnG one 1 48 w.heap.size w' v (r.map Cw.v) ∧ Below w.heap.size w w' := by
  obtain ⟨ao, cap, hvl, _, _⟩ := h.1.shape
  have hcell : 0 < r.length → ∃ b1 o1 c1, vl = .slice (some ⟨b1, o1, none⟩) r.length c1 ∧ b1 < w.heap.size ∧ ∀ i c, r[i]? = some c → w.cell? ⟨b1, o1 + i * 3, none⟩ = some (.int .i64 c.e) ∧ w.cell? ⟨b1, o1 + i * 3 + 1, none⟩ = some (.int .i64 c.n) ∧ w.cell? ⟨b1, o1 + i * 3 + 2, none⟩ = some c.v := by
    intro hp
    obtain ⟨b1, o1, c1, hv, _, _, hB, hc⟩ := h.1.full hp
    exact ⟨b1, o1, c1, hv, hB, hc⟩
  have HC := hide hcell
  have HO : Hid (∀ c ∈ r, c.v.oneCell' = true) := hide h.2.one
  have HI := hide h.2
  subst hvl
  clear h hcell
  by_cases hz : r.length = 0
  · have : r = [] := List.eq_nil_of_length_eq_zero hz
    subst this
    go_enter Try.func40, Try.ntmps40
    go_wp2
    refine wp_loop_rounds 1 ?_
    rw [rounds_succ]
    go_wp2
    go_ret
    exact ⟨_, rfl, OwnG.nil _ _ _ _ _, Below.refl _ _⟩
  obtain ⟨b1, o1, c1, hv, hB, hcl⟩ := HC.out (by omega)
  simp only [Value.slice.injEq, true_and] at hv
  obtain ⟨rfl, rfl⟩ := hv
  have HCL := hide hcl
  obtain ⟨n, hn⟩ : ∃ n, r.length = n := ⟨_, rfl⟩
  rw [hn]
  have HN := hide hn
  rw [hn] at hl
  clear hcl HC hz hn
  go_enter Try.func40, Try.ntmps40
  go_wp2
  go_loopw [3, 4] (fun ov iv wr => ∃ k : Nat, k ≤ n ∧ iv = .int .i64 k ∧ Hid (OwnG one 1 48 w.heap.size wr ov ((r.map Cw.v).take k)) ∧ Below w.heap.size w wr) (fun _ iv _ => n - (intOf iv).toNat)
  case atStart => exact ⟨0, by omega, rfl, hide (OwnG.nil _ _ _ _ _), Below.refl _ _⟩
  case round =>
    obtain ⟨k, hk, rfl, ho, bel⟩ := hrel
    have sz := bel.size
    by_cases hlt : k < n
    · have hlt' : (k : Int) < n := by omega
      obtain ⟨c, hc⟩ := at_of (l := r) (k := k) (by rw [HN.out]; exact hlt)
      have d2 := (bel.cell (p := ⟨b1, o1 + k * 3 + 2, none⟩) hB).trans (HCL.out k c hc).2.2
      obtain ⟨ax, cx, hcv, _, _⟩ := (HI.out c (List.mem_of_getElem? hc)).1.shape
      rw [hcv] at d2
      have HR : Hid ((r.map Cw.v).take k ++ [.slice ax c.l.length cx] = (r.map Cw.v).take (k + 1)) := hide (by
        rw [List.take_add_one, List.getElem?_map, hc, ← hcv]; rfl)
      have hkl : ((r.map Cw.v).take k).length = k := by rw [List.length_take, List.length_map, HN.out]; omega
      have HKL := hide hkl
      obtain ⟨W, hW, szW, belW, ownW⟩ := lls_step wr (.slice ax c.l.length cx)
      have ho2 : OwnG one 1 48 w.heap.size W u3 ((r.map Cw.v).take k) := row_below ho.out belW
      have bel2 := bel.trans (belW.mono sz)
      have sz2 := bel2.size
      clear hc hkl hcv ho
      go_wp2_with (at_builtin; refine wpList_append_lls rfl (.tmp 11) (.tmp 17) rfl w.heap.size _ _ rfl ho2 _ _ rfl ownW.row (by simp [Value.oneCell']) (by rw [HKL.out, List.length_singleton]; omega) (by omega) ?_)
      intro v4 w4 own4 bel4 gr4
      rw [HR.out] at own4
      have H4 := hide own4
      have bel5 := bel2.trans bel4
      clear own4 bel4 gr4 ownW ho2 hW
      go_wp2
      go_roundw
      case rel => exact ⟨k + 1, by omega, by go_num, H4, bel5⟩
      case measure => simp [intOf]; omega
    · have hkn : k = n := by omega
      have hge : ¬ (k : Int) < n := by omega
      have H4 : Hid (OwnG one 1 48 w.heap.size wr u3 (r.map Cw.v)) := hide (by
        have := ho.out
        rw [List.take_of_length_le (by rw [List.length_map, HN.out]; omega)] at this
        exact this)
      clear ho
      go_wp2
      go_ret
      exact ⟨_, rfl, H4.out, bel⟩

/-- An epoch that is written over. -/
def nt (x : Int) : Int := bits BinOp.xor IntKind.i64 (if IntKind.i64.signed = true then -1 else 9223372036854775807) x
/-- A commit whose epoch is written over. -/
def ntC (c : Cw) : Cw := ⟨nt c.e, c.n, c.v, c.l⟩

/-- The first k written over. -/
def midC (l : List Cw) (k : Nat) : List Cw := (l.map ntC).take k ++ l.drop k

theorem midC_split (l : List Cw) (k : Nat) (h : k < l.length) : midC l k = (l.map ntC).take k ++ l[k] :: l.drop (k + 1) := by
  unfold midC
  rw [List.drop_eq_getElem_cons h]

theorem midC_next (l : List Cw) (k : Nat) (h : k < l.length) : midC l (k + 1) = (l.map ntC).take k ++ ntC l[k] :: l.drop (k + 1) := by
  unfold midC
  rw [List.take_succ_eq_append_getElem (by simpa using h), List.getElem_map, List.append_assoc]
  rfl

theorem midC_at (l : List Cw) (k : Nat) (h : k < l.length) : (ccells (midC l k))[k * 3]? = some (.int .i64 l[k].e) := by
  have hl : (ccells ((l.map ntC).take k)).length = k * 3 := by rw [ccells_len, List.length_take, List.length_map]; omega
  rw [midC_split l k h, ccells_app, List.getElem?_append_right (by omega), hl, show k * 3 - k * 3 = 0 by omega]
  rfl

theorem midC_set (l : List Cw) (k : Nat) (h : k < l.length) : (ccells (midC l k)).set (k * 3) (.int .i64 (nt l[k].e)) = ccells (midC l (k + 1)) := by
  have hl : (ccells ((l.map ntC).take k)).length = k * 3 := by rw [ccells_len, List.length_take, List.length_map]; omega
  rw [midC_split l k h, midC_next l k h, ccells_app, ccells_app, List.set_append_right _ _ (by omega), hl, show k * 3 - k * 3 = 0 by omega]
  rfl

/-- What stands in the spare room then. -/
def overK : List Value := [.int .i64 99, .int .i64 0, .slice none 0 0]

set_option maxHeartbeats 1000000 in
theorem overC_full (g n cap base : Nat) (l : List Cw) (w : World) (hn : l.length = n) (hown : w.ownsRow base 50 3 (.slice (some ⟨g, 0, none⟩) n cap) n (ccells l)) (hcm : cap ≤ maxLen) (hnc : n ≤ cap) :
    Calls Try.prog 41 #[.slice (some ⟨g, 0, none⟩) n cap] w fun e w' => e = .returned (.tuple #[]) ∧ w'.ownsRow base 50 3 (.slice (some ⟨g, 0, none⟩) n cap) n (ccells (l.map ntC)) ∧ w.grownBy w' (some g) := by
  unfold maxLen at hcm
  obtain ⟨i0, hi, hz0, hz1, hz2⟩ := info_parts Try.info50
  go_enter Try.func41, Try.ntmps41
  go_wp2
  go_loopw [3] (fun i wr => ∃ (k : Nat), k ≤ n ∧ i = .int .i64 k ∧ wr.ownsRow base 50 3 (.slice (some ⟨g, 0, none⟩) n cap) n (ccells (midC l k)) ∧ w.grownBy wr (some g)) (fun i _ => n - (intOf i).toNat)
  case atStart => exact ⟨0, by omega, rfl, by simpa [midC] using hown, World.grownBy.refl _ _⟩
  case round =>
    obtain ⟨k, hk, rfl, ho, hg⟩ := hrel
    by_cases hlt : k < n
    · have hz : k < l.length := by omega
      have g1 : wr.cell? ⟨g, k * 3, none⟩ = some (.int .i64 l[k].e) := by rw [ho.cellAt (k * 3) (by omega)]; exact midC_at l k hz
      have g2 := ho.frozenAt (k * 3)
      have hlt' : (k : Int) < n := by omega
      have hs := ho.stored (k * 3) (.int .i64 (nt l[k].e))
      rw [midC_set l k hz] at hs
      have HS := hide hs
      have HG := hide hg
      generalize l[k].e = ee at *
      clear hs ho hg
      go_wp2
      go_roundw
      case rel => exact ⟨k + 1, by omega, by go_num, HS.out.1, grown_trans HG.out HS.out.2⟩
      case measure => simp [intOf]; omega
    · have hkn : k = n := by omega
      have ho2 : wr.ownsRow base 50 3 (.slice (some ⟨g, 0, none⟩) n cap) n (ccells (l.map ntC)) := by
        have h1 : midC l k = l.map ntC := by
          unfold midC
          rw [List.take_of_length_le (by simp; omega), List.drop_eq_nil_of_le (by omega), List.append_nil]
        rw [h1] at ho
        exact ho
      obtain ⟨cs, hcs⟩ : ∃ cs, cs = ccells (l.map ntC) := ⟨_, rfl⟩
      rw [← hcs] at ho2
      have HCS := hide hcs
      clear ho hkn hcs
      go_wp2
      go_loopw [0] (fun lv wr => ∃ (m : Nat) (ys : List Value), n ≤ m ∧ m ≤ cap ∧ lv = .slice (some ⟨g, 0, none⟩) m cap ∧ wr.ownsRow base 50 3 (.slice (some ⟨g, 0, none⟩) m cap) m (cs ++ ys) ∧ w.grownBy wr (some g)) (fun lv _ => cap - lenOf lv)
      case atStart => exact ⟨n, [], Nat.le_refl _, hnc, rfl, by simpa using ho2, hg⟩
      case round =>
        obtain ⟨m, ys, hm1, hm2, rfl, ho3, hg3⟩ := hrel
        clear ho2 hg
        by_cases hlt2 : m < cap
        · have hlt3 : (m : Int) < cap := by omega
          go_wp2_with (at_builtin; refine wpList_append_fits _ rfl (.tmp 26) (.tmp 28) 22 rfl base 50 i0 3 Try.underlying22 hi hz1 g m cap _ rfl (ho3.alloc _) ⟨wr.heap.size, 0, none⟩ 1 1 overK rfl rfl (cells_three_new _ _ _ _ _) (by intro u hu; simp [overK] at hu; rcases hu with rfl | rfl | rfl <;> rfl) (by omega) ?_)
          intro w2 ho4 hg4
          have hg5 := grown_trans hg3 (grown_trans (World.grownBy_alloc _ _ _) hg4)
          clear ho3 hg3 hg4
          go_wp2
          go_roundw
          case rel => exact ⟨m + 1, ys ++ overK, by omega, by omega, rfl, by simpa using ho4, hg5⟩
          case measure => simp [lenOf]; omega
        · go_wp2
          go_end0
          refine ⟨rfl, ?_, hg3⟩
          have := own_frontO ho3 n hm1
          rw [List.take_left' (by rw [HCS.out, ccells_len, List.length_map, hn]), HCS.out] at this
          exact this

theorem overC_any (v : Value) (l : List Cw) (base : Nat) (w : World) (h : OwnR 50 base w v l) :
    Calls Try.prog 41 #[v] w fun e w' => e = .returned (.tuple #[]) ∧ OwnR 50 base w' v (l.map ntC) ∧ w.grownBy w' v.ownBlock := by
  rcases h.2 with ⟨hv, hn⟩ | ⟨g, cap, cur, hv, h1, hh, hc, hm, hs, ht⟩
  · have hz : l = [] := List.eq_nil_of_length_eq_zero hn
    subst hz hv
    go_enter Try.func41, Try.ntmps41
    go_wp2
    refine wp_loop_rounds 1 ?_
    rw [rounds_succ]
    go_wp2
    refine wp_loop_rounds 1 ?_
    rw [rounds_succ]
    go_wp2
    go_end0
    exact ⟨rfl, OwnR.nil _ _ _, World.grownBy.refl _ _⟩
  · subst hv
    refine (overC_full g l.length cap base l w rfl h hm hc).mono ?_
    rintro e w' ⟨rfl, ho, hg⟩
    exact ⟨rfl, by unfold OwnR; rw [List.length_map]; exact ho, hg⟩

theorem apartO_none (ao : Option Addr) (cap : Nat) (w : World) : Calls Try.prog 42 #[.slice ao 0 cap] w fun E w' => E = .returned (.bool true) ∧ Below w.heap.size w w' := by
  obtain ⟨i0, hi, hz0, hz1, hz2⟩ := info_parts Try.info48
  go_enter Try.func42, Try.ntmps42
  go_wp2_with (at_make; refine wpList_make_full _ rfl _ _ 67 rfl w.heap.size 48 i0 (.slice none 0 0) 1 Try.underlying67 hi hz0 hz1 _ _ _ _ 0 rfl rfl (by omega) (by omega) ?b2 ?b3 (Nat.le_refl _) ?_)
  case b2 => rw [hz2]; omega
  case b3 => unfold maxLen; omega
  intro w0 hown0 hgrow0
  have bel0 : Below w.heap.size w w0 := (Below.refl _ _).grown hgrow0 (Nat.le_refl _) (by simp)
  clear hown0 hgrow0
  go_wp2
  refine wp_loop_rounds 1 ?_
  rw [rounds_succ]
  go_wp2
  refine wp_loop_rounds 1 ?_
  rw [rounds_succ]
  go_wp2
  refine wp_loop_rounds 1 ?_
  rw [rounds_succ]
  go_wp2
  go_ret
  exact ⟨rfl, bel0⟩

end Go.Proofs.Ytfnaeblbodfekaa

/- The contract of ApartCommits. -/
namespace Go.Proofs.Ytfnaeblbodfekaa
open Go.RowKit
set_option linter.unusedVariables false

/-- What the lists are, ahead of ApartCommits. -/
structure ListsC (m bl base : Nat) (w : World) (vs : Nat → Value) (zs : Nat → List Cw) : Prop where
  cell : ∀ i, i < m → w.cell? ⟨bl, i, none⟩ = some (vs i)
  own : ∀ i, i < m → OwnR 50 base w (vs i) (zs i)
  ops : ∀ i, i < m → CopyR base w (zs i)
  i64 : ∀ i, i < m → ∀ c ∈ zs i, In64 c.e ∧ In64 c.n
  apart : ∀ i j, i < m → j < m → i ≠ j → (vs i).ownBlock = none ∨ (vs i).ownBlock ≠ (vs j).ownBlock
  table : ∀ i, i < m → (vs i).ownBlock ≠ some bl
  lens : ∀ i, i < m → (zs i).length ≤ 1000
  lops : ∀ i, i < m → ∀ c ∈ zs i, c.l.length ≤ 1000
  fit : ∀ i, i < m → FitC (zs i)
  ap : ApC ((List.range m).flatMap zs)

theorem ListsC.is {m bl base : Nat} {w : World} {vs : Nat → Value} {zs : Nat → List Cw} (H : ListsC m bl base w vs zs) {i : Nat} (hi : i < m) : IsC w (vs i) (zs i) := ⟨(H.own i hi).row, fun c hc => ⟨(H.ops i hi c hc).is, H.i64 i hi c hc⟩⟩

/-- The ops of the first lists. -/
def opsK (zs : Nat → List Cw) (k : Nat) : List Value := ((List.range k).flatMap zs).map Cw.v

theorem opsK_succ (zs : Nat → List Cw) (k : Nat) : opsK zs (k + 1) = opsK zs k ++ (zs k).map Cw.v := by
  simp [opsK, List.range_succ, List.flatMap_append]

theorem opsK_len (zs : Nat → List Cw) (m : Nat) (h : ∀ i, i < m → (zs i).length ≤ 1000) : ∀ k, k ≤ m → (opsK zs k).length ≤ 1000 * k
  | 0, _ => by simp [opsK]
  | k + 1, hk => by
    have := opsK_len zs m h k (by omega)
    have := h k (by omega)
    rw [opsK_succ, List.length_append, List.length_map]
    omega

/-- A copy of the commits z. -/
def Cop (b : Nat) (w : World) (v : Value) (z : List Cw) : Prop := ∃ rs, OwnR 50 b w v rs ∧ cvs rs = cvs z ∧ CopyR b w rs

theorem Cop.below {b : Nat} {w w' : World} {v : Value} {z : List Cw} (h : Cop b w v z) (hb : Below w.heap.size w w') : Cop b w' v z := by
  obtain ⟨rs, h1, h2, h3⟩ := h
  exact ⟨rs, h1.below hb, h2, h3.below hb⟩

theorem Cop.out {b : Nat} {w w' : World} {v : Value} {z : List Cw} {F : Nat → Prop} (h : Cop b w v z) (ho : Out F w w') (hF : ∀ i, F i → i < b) : Cop b w' v z := by
  obtain ⟨rs, h1, h2, h3⟩ := h
  exact ⟨rs, row_out h1 ho hF, h2, fun c hc => row_out (h3 c hc) ho hF⟩

theorem Cop.keepT {b e' : Nat} {w w' : World} {v : Value} {z : List Cw} (h : Cop b w v z) (k : KeepT e' w w') (n1 : 50 ≠ e') (n2 : 59 ≠ e') : Cop b w' v z := by
  obtain ⟨rs, h1, h2, h3⟩ := h
  exact ⟨rs, row_keepT h1 k n1, h2, fun c hc => row_keepT (h3 c hc) k n2⟩

theorem Cop.rebase {b b' : Nat} {w : World} {v : Value} {z : List Cw} (h : Cop b w v z) (hb : b' ≤ b) : Cop b' w v z := by
  obtain ⟨rs, h1, h2, h3⟩ := h
  exact ⟨rs, row_rebase h1 hb, h2, fun c hc => row_rebase (h3 c hc) hb⟩

/-- In the first loop: kc copies, the ops of ko lists. -/
structure L1 (m B : Nat) (w wr : World) (zs : Nat → List Cw) (kc ko : Nat) (xs : List Value) (ov : Value) : Prop where
  row : wr.ownsRow B 22 1 (.slice (some ⟨B, 0, none⟩) m m) m xs
  cop : ∀ j, j < kc → Cop (B + 1) wr (xs.getD j (.slice none 0 0)) (zs j)
  ops : OwnG one 1 48 (B + 1) wr ov (opsK zs ko)
  bel : Below B w wr
  lt : B < wr.heap.size

theorem L1.below {m B : Nat} {w wr w2 : World} {zs : Nat → List Cw} {kc ko : Nat} {xs : List Value} {ov : Value} (h : L1 m B w wr zs kc ko xs ov) (hb : Below wr.heap.size wr w2) : L1 m B w w2 zs kc ko xs ov :=
  ⟨ownrow_below h.row hb, fun j hj => (h.cop j hj).below hb, row_below h.ops hb, h.bel.trans (hb.mono (by have := h.lt; omega)), by have := h.lt; have := hb.size; omega⟩

theorem L1.put {m B : Nat} {w wr w1 w2 : World} {zs : Nat → List Cw} {k : Nat} {xs : List Value} {ov u : Value} (h : L1 m B w wr zs k k xs ov) (hk : k < m) (hu : Cop wr.heap.size w1 u (zs k)) (belu : Below wr.heap.size wr w1) (e : w1.setCell ⟨B, k, none⟩ u = w2) : L1 m B w w2 zs (k + 1) k (xs.set k u) ov := by
  have h1 := h.below belu
  have hst := h1.row.stored k u
  rw [e] at hst
  have hl : xs.length = m := by have := h.row.1; omega
  have ho : Out (fun g => g = B) w1 w2 := Out.of_grown hst.2 (fun g hg => by simpa using hg.symm)
  have hlt := h.lt
  refine ⟨hst.1, fun j hj => ?_, row_out h1.ops ho (fun i hi => by omega), ?_, ?_⟩
  · by_cases hjk : j = k
    · subst hjk
      have e : (xs.set j u).getD j (.slice none 0 0) = u := by simp [hl, hk]
      rw [e]
      exact (hu.out ho (fun i hi => by omega)).rebase (by omega)
    · have e : (xs.set k u).getD j (.slice none 0 0) = xs.getD j (.slice none 0 0) := by
        simp [List.getD, List.getElem?_set_ne (Ne.symm hjk)]
      rw [e]
      exact (h1.cop j (by omega)).out ho (fun i hi => by omega)
  · rw [← e]
    exact h1.bel.setCell (Nat.le_refl _) _
  · have := hst.2.size
    have := h1.lt
    omega

theorem L1.app {m B : Nat} {w w3 w4 : World} {zs : Nat → List Cw} {k : Nat} {xs : List Value} {ov v4 : Value} (h : L1 m B w w3 zs (k + 1) k xs ov) (ho : OwnG one 1 48 (B + 1) w4 v4 (opsK zs k ++ (zs k).map Cw.v)) (hb : Below (B + 1) w3 w4) (hg : w3.grownBy w4 ov.ownBlock) : L1 m B w w4 zs (k + 1) (k + 1) xs v4 := by
  have kt : KeepT 48 w3 w4 := KeepT.of_row h.ops hg
  have hs := hg.size
  have hlt := h.lt
  exact ⟨row_keepT h.row kt (by decide), fun j hj => (h.cop j hj).keepT kt (by decide) (by decide), by rw [opsK_succ]; exact ho, h.bel.trans (hb.mono (by omega)), by omega⟩

/-- In the second loop. -/
structure L2 (m bl base : Nat) (w wr : World) (vs us : Nat → Value) (zs : Nat → List Cw) (ov : Value) (k : Nat) : Prop where
  cell : ∀ i, i < m → wr.cell? ⟨bl, i, none⟩ = some (vs i)
  was : ∀ i, i < m → wr.cell? ⟨w.heap.size, i, none⟩ = some (us i)
  new : ∀ i, i < m → Cop (w.heap.size + 1) wr (us i) (zs i)
  done : ∀ i, i < k → i < m → OwnR 50 base wr (vs i) ((zs i).map ntC)
  left : ∀ i, k ≤ i → i < m → OwnR 50 base wr (vs i) (zs i)
  opl : ∀ i, i < m → CopyR base wr (zs i)
  ops : OwnG one 1 48 (w.heap.size + 1) wr ov (opsK zs m)
  out : Out (OwnsB m vs) w wr
  lt : w.heap.size < wr.heap.size

theorem l2_start {m bl base : Nat} {w wr : World} {vs : Nat → Value} {zs : Nat → List Cw} {xs : List Value} {ov : Value} (H : ListsC m bl base w vs zs) (h : L1 m w.heap.size w wr zs m m xs ov) : L2 m bl base w wr vs (fun j => xs.getD j (.slice none 0 0)) zs ov 0 := by
  have hl : xs.length = m := by have := h.row.1; omega
  exact ⟨fun i hi => (h.bel.cell (p := ⟨bl, i, none⟩) (World.block_lt_of_cell? _ _ (H.cell i hi))).trans (H.cell i hi),
    fun i hi => by rw [h.row.cellAt i (by omega)]; simp [List.getD, List.getElem?_eq_getElem (show i < xs.length by omega)],
    h.cop, fun i h0 => absurd h0 (by omega), fun i _ hi => (H.own i hi).below h.bel, fun i hi => (H.ops i hi).below h.bel, h.ops, Out.of_below h.bel, h.lt⟩

theorem L2.below {m bl base : Nat} {w wr w2 : World} {vs us : Nat → Value} {zs : Nat → List Cw} {ov : Value} {k : Nat} (h : L2 m bl base w wr vs us zs ov k) (hb : Below wr.heap.size wr w2) : L2 m bl base w w2 vs us zs ov k :=
  ⟨fun i hi => (hb.cell (p := ⟨bl, i, none⟩) (World.block_lt_of_cell? _ _ (h.cell i hi))).trans (h.cell i hi), fun i hi => (hb.cell (p := ⟨w.heap.size, i, none⟩) h.lt).trans (h.was i hi), fun i hi => (h.new i hi).below hb, fun i h1 hi => (h.done i h1 hi).below hb, fun i h1 hi => (h.left i h1 hi).below hb, fun i hi => (h.opl i hi).below hb, row_below h.ops hb,
    h.out.trans (Out.of_below (F := fun _ => False) hb) (fun g hg => hg.elim), by have := h.lt; have := hb.size; omega⟩

theorem L2.over {m bl base : Nat} {w wr w2 : World} {vs us : Nat → Value} {zs : Nat → List Cw} {ov : Value} {k : Nat} (H : ListsC m bl base w vs zs) (h : L2 m bl base w wr vs us zs ov k) (hk : k < m)
    (ho : OwnR 50 base w2 (vs k) ((zs k).map ntC)) (hg : wr.grownBy w2 (vs k).ownBlock) : L2 m bl base w w2 vs us zs ov (k + 1) := by
  have hvk : ∀ b, (vs k).ownBlock = some b → base ≤ b ∧ b < w.heap.size := World.ownsRow.lt (H.own k hk)
  have kt : KeepT 50 wr w2 := KeepT.of_row (h.left k (Nat.le_refl _) hk) hg
  have oF : Out (fun g => (vs k).ownBlock = some g) wr w2 := Out.of_grown hg (fun g e => e)
  have lo : ∀ i, (vs k).ownBlock = some i → i < w.heap.size + 1 := fun i e => by have := hvk i e; omega
  have other : ∀ i, i < m → i ≠ k → (vs i).ownBlock = none ∨ (vs i).ownBlock ≠ (vs k).ownBlock := fun i hi hne => H.apart i k hi hk hne
  refine ⟨fun i hi => hg.cell (h.cell i hi) (fun e => H.table k hk e.symm), fun i hi => hg.cell (h.was i hi) (fun e => by have := hvk _ e.symm; simp at this), fun i hi => (h.new i hi).out oF lo, fun i h1 hi => ?_, fun i h1 hi => World.ownsRow.kept (h.left i (by omega) hi) hg (other i hi (by omega)), fun i hi => (h.opl i hi).keepT kt, row_out h.ops oF lo, ?_, ?_⟩
  · by_cases e : i = k
    · subst e; exact ho
    · exact World.ownsRow.kept (h.done i (by omega) hi) hg (other i hi e)
  · exact h.out.trans oF (fun g e => .inl ⟨k, hk, e⟩)
  · have := hg.size
    have := h.lt
    omega

/-- A block that one of the lists, or of their ops, has. -/
def OwnsC (m : Nat) (vs : Nat → Value) (zs : Nat → List Cw) (g : Nat) : Prop := OwnsB m vs g ∨ ∃ i, i < m ∧ ∃ c ∈ zs i, c.v.ownBlock = some g

theorem all_at {m : Nat} {zs : Nat → List Cw} {i : Nat} (h : i < (opsK zs m).length) : ∃ c a, a < m ∧ c ∈ zs a ∧ ((List.range m).flatMap zs)[i]? = some c ∧ (opsK zs m).getD i (.slice none 0 0) = c.v ∧ (((List.range m).flatMap zs).map Cw.l).getD i [] = c.l := by
  have hl : i < ((List.range m).flatMap zs).length := by simpa [opsK] using h
  have hc : ((List.range m).flatMap zs)[i]? = some ((List.range m).flatMap zs)[i] := List.getElem?_eq_getElem hl
  obtain ⟨a, ha, hm⟩ := List.mem_flatMap.1 (List.mem_of_getElem? hc)
  exact ⟨_, a, List.mem_range.1 ha, hm, hc, by unfold opsK; rw [List.getD_eq_getElem?_getD, List.getElem?_map, hc]; rfl, by rw [List.getD_eq_getElem?_getD, List.getElem?_map, hc]; rfl⟩

theorem lists_ops {m bl base : Nat} {w wr : World} {vs us : Nat → Value} {zs : Nat → List Cw} {bo cap n : Nat} {k : Nat} (H : ListsC m bl base w vs zs) (h : L2 m bl base w wr vs us zs (.slice (some ⟨bo, 0, none⟩) n cap) k) (hn : (opsK zs m).length = n) (hbo : w.heap.size < bo) :
    ListsO n bo base wr (fun i => (opsK zs m).getD i (.slice none 0 0)) (fun i => (((List.range m).flatMap zs).map Cw.l).getD i []) := by
  subst hn
  have hrow := h.ops.row
  refine ⟨fun i hi => ?_, fun i hi => ?_, fun i j hi hj hne => ?_, fun i hi => ?_, fun i hi => ?_, fun i hi => ?_⟩
  · rcases hrow with ⟨e, _⟩ | ⟨ad, c2, e, _, _, hc⟩
    · simp at e
    · simp only [Value.slice.injEq, Option.some.injEq] at e
      obtain ⟨rfl, _⟩ := e
      have := hc i ((opsK zs m)[i]) (by rw [gcells_one]; exact List.getElem?_eq_getElem hi)
      rw [add_at] at this
      rw [List.getD_eq_getElem?_getD, List.getElem?_eq_getElem hi]
      simpa using this
  · obtain ⟨c, a, ha, hm, _, e1, e2⟩ := all_at hi
    rw [e1, e2]
    exact h.opl a ha c hm
  · obtain ⟨c, a, ha, hm, hc, e1, _⟩ := all_at hi
    obtain ⟨d, b, hb, hm', hd, f1, _⟩ := all_at hj
    rw [e1, f1]
    exact H.ap i j c d hne hc hd
  · obtain ⟨c, a, ha, hm, _, e1, e2⟩ := all_at hi
    rw [e1]
    intro e
    have := (World.ownsRow.lt (H.ops a ha c hm) bo e).2
    omega
  · obtain ⟨c, a, ha, hm, _, e1, e2⟩ := all_at hi
    rw [e2]
    exact Nat.le_trans (H.lops a ha c hm) (by omega)
  · obtain ⟨c, a, ha, hm, _, e1, e2⟩ := all_at hi
    rw [e2]
    exact (H.fit a ha c hm).1

end Go.Proofs.Ytfnaeblbodfekaa

/- The walk of ApartCommits. -/
namespace Go.Proofs.Ytfnaeblbodfekaa
open Go.RowKit
set_option linter.unusedVariables false

theorem Try.info22 : (Try.prog.info? 22).map (fun i => (i.zero, i.size, i.bytes)) = some (some (.slice none 0 0), 1, 24) := by kernel_rfl

set_option maxRecDepth 100000 in
set_option maxHeartbeats 4000000 in
theorem apartC_keeps (m bl cl base : Nat) (vs : Nat → Value) (zs : Nat → List Cw) (w : World) (hm : m ≤ 1000) (hcl : m ≤ cl) (hbase : base ≤ w.heap.size) (h : ListsC m bl base w vs zs) (hm0 : 0 < m) :
    Calls Try.prog 20 #[.slice (some ⟨bl, 0, none⟩) m cl] w fun e w' => e = .returned (.bool true) ∧ Out (OwnsC m vs zs) w w' := by
  obtain ⟨i0, hi, hz0, hz1, hz2⟩ := info_parts Try.info22
  have hbl : bl < w.heap.size := World.block_lt_of_cell? _ _ (h.cell 0 hm0)
  have H := hide h
  have HLN : Hid (∀ k, k ≤ m → (opsK zs k).length ≤ 1000 * k) := hide (opsK_len zs m h.lens)
  clear h
  go_enter Try.func20, Try.ntmps20
  go_wp2_with (at_make; refine wpList_make_full _ rfl _ _ 43 rfl w.heap.size 22 i0 (.slice none 0 0) 1 Try.underlying43 hi hz0 hz1 _ _ _ _ m rfl rfl (by omega) (by omega) ?b2 ?b3 (Nat.le_refl _) ?_)
  case b2 => rw [hz2]; omega
  case b3 => unfold maxLen; omega
  intro w0 hown0 hgrow0
  have bel0 : Below w.heap.size w w0 := (Below.refl _ _).grown hgrow0 (Nat.le_refl _) (by simp)
  obtain ⟨xs0, hown1⟩ : ∃ xs0, w0.ownsRow w.heap.size 22 1 (.slice (some ⟨w.heap.size, 0, none⟩) m m) m xs0 := ⟨_, hown0⟩
  have I0 : Hid (L1 m w.heap.size w w0 zs 0 0 xs0 (.slice none 0 0)) := hide ⟨hown1, fun j hj => absurd hj (by omega), OwnG.nil _ _ _ _ _, bel0, (hown1.lt _ rfl).2⟩
  clear hown0 hgrow0 hown1 bel0
  go_wp2
  go_loopw [4, 5] (fun ov ii wr => ∃ (k : Nat) (xs : List Value), k ≤ m ∧ ii = .int .i64 k ∧ Hid (L1 m w.heap.size w wr zs k k xs ov)) (fun _ ii _ => m - (intOf ii).toNat)
  case atStart => exact ⟨0, xs0, by omega, rfl, I0⟩
  case round =>
    clear I0
    obtain ⟨k, xs, hk, rfl, HI⟩ := hrel
    by_cases hlt : k < m
    · have bel := HI.out.bel
      have g1 := (bel.cell (p := ⟨bl, k, none⟩) hbl).trans (H.out.cell k hlt)
      have hlt' : (k : Int) < m := by omega
      have hxl : xs.length = m := by have := HI.out.row.1; omega
      have IC := hide ((H.out.is hlt).below bel)
      go_wp2_with fail
      refine (copyCs_any _ _ _ IC.out (H.out.fit k hlt) (by have := H.out.lens k hlt; omega)).mono ?_
      rintro E w1 ⟨u, rs, rfl, ownu, heu, cru, belu⟩
      have ho1 := ownrow_below HI.out.row belu
      have g2 := (ho1.cellAt k (by omega)).trans (List.getElem?_eq_getElem (by rw [hxl]; exact hlt))
      have g3 := ho1.frozenAt k
      have CU : Hid (Cop wr.heap.size w1 u (zs k)) := hide ⟨rs, ownu, heu, cru⟩
      obtain ⟨au, cu, hu, _, _⟩ := ownu.row.shape
      subst hu
      obtain ⟨w2, hw2⟩ : ∃ x, w1.setCell ⟨w.heap.size, k, none⟩ (.slice au rs.length cu) = x := ⟨_, rfl⟩
      have I2 := hide (HI.out.put hlt CU.out belu hw2)
      have bel2 := I2.out.bel
      have g4 := (bel2.cell (p := ⟨bl, k, none⟩) hbl).trans (H.out.cell k hlt)
      have CO := hide (opsOf_any (vs k) (zs k) w2 ((H.out.is hlt).below bel2) (by have := H.out.lens k hlt; omega))
      clear ho1 ownu heu cru belu CU bel IC
      go_wp2_with fail
      refine CO.out.mono ?_
      rintro E w3 ⟨v3, rfl, own3, bel3⟩
      have I3 := hide (I2.out.below bel3)
      have hs3 := I3.out.lt
      have hln : (opsK zs k).length + ((zs k).map Cw.v).length ≤ 2000000 := by
        have := HLN.out k hk
        have := H.out.lens k hlt
        rw [List.length_map]
        omega
      have HONE : Hid (∀ u ∈ (zs k).map Cw.v, u.oneCell' = true) := hide fun u hu => by
        obtain ⟨c, hc, rfl⟩ := List.mem_map.1 hu
        exact (H.out.ops k hlt c hc).is.one
      have R3 := hide own3.row
      have ops3 := I3.out.ops
      clear own3 bel3 I2 bel2 CO g1 g2 g3 g4
      go_wp2_with (at_builtin; refine wpList_append_lls rfl (.tmp 26) (.tmp 31) rfl (w.heap.size + 1) _ _ rfl ops3 _ _ rfl R3.out HONE.out (by omega) (by omega) ?_)
      intro v4 w4 own4 bel4 gr4
      have I4 := hide (I3.out.app own4 bel4 gr4)
      clear own4 bel4 gr4 ops3 I3
      go_wp2
      go_roundw
      case rel => exact ⟨k + 1, _, by omega, by go_num, I4⟩
      case measure => simp [intOf]; omega
    · have hkm : k = m := by omega
      subst hkm
      have hge : ¬ (k : Int) < k := by omega
      have C0 := hide (l2_start H.out HI.out)
      generalize (fun j => xs.getD j (.slice none 0 0)) = us at C0
      clear HI
      obtain ⟨wa, hwa⟩ : ∃ x, x = wr := ⟨_, rfl⟩
      subst hwa
      go_wp2
      clear hlt hge hk
      go_loopw [6] (fun ii wr => ∃ (i : Nat), i ≤ k ∧ ii = .int .i64 i ∧ Hid (L2 k bl base w wr vs us zs u4 i)) (fun ii _ => k - (intOf ii).toNat)
      case atStart => exact ⟨0, by omega, rfl, C0⟩
      case round =>
        clear C0
        obtain ⟨i, hik, rfl, HC⟩ := hrel
        by_cases hlt : i < k
        · have g1 := HC.out.cell i hlt
          have g2 := HC.out.was i hlt
          have hlt' : (i : Int) < k := by omega
          have hsz := HC.out.lt
          have CS : Hid (∀ W, Below wr.heap.size wr W → Calls Try.prog 17 #[vs i, us i] W fun E w' => E = .returned (.bool true) ∧ Below W.heap.size W w') := hide fun W hb => by
            obtain ⟨rs, h1, h2, h3⟩ := HC.out.new i hlt
            have hl := H.out.lens i hlt
            have hl2 := cvs_len h2
            have hin : InC wr (zs i) := fun c hc => ⟨(HC.out.opl i hlt c hc).is, H.out.i64 i hlt c hc⟩
            have := sameCs_any (vs i) (us i) (zs i) rs W ⟨((HC.out.left i (Nat.le_refl _) hlt).row).below hb, hin.below hb⟩ ⟨h1.row.below hb, (h3.inC h2 hin).below hb⟩ (H.out.fit i hlt) (fit_same h2 (H.out.fit i hlt)) (by omega) (by omega)
            rw [h2, sameV_self] at this
            exact this
          go_wp2_with fail
          go_region_held3 (fun w' => w'.cell? ⟨bl, i, none⟩ = some (vs i) ∧ w'.cell? ⟨w.heap.size, i, none⟩ = some (us i)) (first | exact ⟨g1, g2⟩ | exact ⟨a1, a2⟩ | go_keep)
            (first
            | (go_at_call 17; refine (CS.out _ ((Below.refl _ _).drew)).mono ?_; rintro E w2 ⟨rfl, bel2'⟩; have bel2 : Below wr.heap.size wr w2 := ((Below.refl _ _).drew).trans bel2'; have C2 := hide (HC.out.below bel2); have a1 := C2.out.cell i hlt; have a2 := C2.out.was i hlt; clear bel2'))
          have CO := hide (overC_any (vs i) (zs i) base w2 (C2.out.left i (Nat.le_refl _) hlt))
          clear g1 g2 CS HC
          go_wp2_with fail
          refine CO.out.mono ?_
          rintro E w3 ⟨rfl, own3, gr3⟩
          have C3 := hide (C2.out.over H.out hlt own3 gr3)
          clear CO own3 gr3 C2 a1 a2 bel2
          go_wp2
          go_roundw
          case rel => exact ⟨i + 1, by omega, by go_num, C3⟩
          case measure => simp [intOf]; omega
        · have him : i = k := by omega
          subst him
          have hge : ¬ (i : Int) < i := by omega
          obtain ⟨wb, hwb⟩ : ∃ x, x = wr := ⟨_, rfl⟩
          subst hwb
          go_wp2
          clear hlt hge hik
          go_loopw [7, 8] (fun ii _ wx => ∃ (k n : Nat), k ≤ i ∧ ii = .int .i64 k ∧ wx = wb.drewN n) (fun ii _ _ => i - (intOf ii).toNat)
          case atStart => exact ⟨0, 0, by omega, rfl, rfl⟩
          case round =>
            obtain ⟨k, n, hk, rfl, rfl⟩ := hrel
            by_cases hlt : k < i
            · have g1 : (wb.drewN n).cell? ⟨bl, k, none⟩ = some (vs k) := HC.out.cell k hlt
              have g2 : (wb.drewN n).cell? ⟨w.heap.size, k, none⟩ = some (us k) := HC.out.was k hlt
              have hlt' : (k : Int) < i := by omega
              have o1 := HC.out.done k hlt hlt
              obtain ⟨rs, o2, hcv, _⟩ := HC.out.new k hlt
              have hl := H.out.lens k hlt
              have hl2 := cvs_len hcv
              by_cases hz : 0 < (zs k).length
              · obtain ⟨b1, f1, c1, hv1, hc1, hm1, _, he1⟩ := o1.row.full (by simpa using hz)
                obtain ⟨b2, f2, c2, hv2, hc2, hm2, _, he2⟩ := o2.row.full (by omega)
                rw [hv1, List.length_map] at g1
                rw [hv2, hl2] at g2
                rw [List.length_map] at hc1
                rw [hl2] at hc2
                have H1 := hide he1
                have H2 := hide he2
                have HCV := hide hcv
                clear he1 he2 hv1 hv2 o1 o2 hcv hl2
                generalize hL : (zs k).length = L at *
                have HLL := hide hL
                clear hL
                generalize hy : wb.drewN n = wy at *
                have HY := hide hy
                clear hy
                go_wp2
                go_loopw [8] (fun kk wx => ∃ (j n : Nat), j ≤ L ∧ kk = .int .i64 j ∧ wx = wy.drewN n) (fun kk _ => L - (intOf kk).toNat)
                case atStart => exact ⟨0, 0, by omega, rfl, rfl⟩
                case round =>
                  obtain ⟨j, n2, hj, rfl, rfl⟩ := hrel
                  by_cases hjl : j < L
                  · have hjl' : (j : Int) < L := by omega
                    obtain ⟨c, hc⟩ := at_of (l := zs k) (k := j) (by rw [HLL.out]; exact hjl)
                    obtain ⟨d, hd, hde, _, _⟩ := cvs_at HCV.out.symm hc
                    have g3 : (wy.drewN n2).cell? ⟨b1, f1 + j * 3, none⟩ = some (.int .i64 (bits BinOp.xor IntKind.i64 (if IntKind.i64.signed = true then -1 else 9223372036854775807) c.e)) := by
                      have := (H1.out j (ntC c) (by rw [List.getElem?_map, hc]; rfl)).1
                      rw [← HY.out]
                      exact this
                    have g4 : (wy.drewN n2).cell? ⟨b2, f2 + j * 3, none⟩ = some (.int .i64 c.e) := by
                      have := (H2.out j d hd).1
                      rw [← hde] at this
                      rw [← HY.out]
                      exact this
                    have k1 : (wy.drewN n2).cell? ⟨bl, k, none⟩ = some (.slice (some ⟨b1, f1, none⟩) L c1) := g1
                    have k2 : (wy.drewN n2).cell? ⟨w.heap.size, k, none⟩ = some (.slice (some ⟨b2, f2, none⟩) L c2) := g2
                    have hq : (bits BinOp.xor IntKind.i64 (if IntKind.i64.signed = true then -1 else 9223372036854775807) c.e != bits BinOp.xor IntKind.i64 (if IntKind.i64.signed = true then -1 else 9223372036854775807) c.e) = false := by simp
                    generalize hyy : wy.drewN n2 = wz at *
                    have HYY := hide hyy
                    clear hc hd hde hyy
                    generalize c.e = ee at *
                    go_wp2
                    go_quiet (fail)
                    go_wp2
                    go_roundw
                    case rel => exact ⟨j + 1, n2 + nq, by omega, by go_num, by rw [← HYY.out, World.drewN_drewN]⟩
                    case measure => simp [intOf]; omega
                  · have hge : ¬ (j : Int) < L := by omega
                    go_wp2
                    go_roundw
                    case rel => exact ⟨k + 1, n + n2, by omega, by go_num, by rw [← HY.out, World.drewN_drewN]⟩
                    case measure => simp [intOf]; omega
              · obtain ⟨a1, c1, hv1, hc1, hm1⟩ := o1.row.shape
                have hz0 : (zs k).length = 0 := by omega
                rw [hv1, List.length_map, hz0] at g1
                clear hv1 hc1 o1 o2 g2 hl hz0 hz hl2 hcv
                generalize hy : wb.drewN n = wy at *
                have HY := hide hy
                clear hy
                go_wp2
                refine wp_loop_rounds 1 ?_
                rw [rounds_succ]
                go_wp2
                go_roundw
                case rel => exact ⟨k + 1, n, by omega, by go_num, HY.out.symm⟩
                case measure => simp [intOf]; omega
            · have hge : ¬ (k : Int) < i := by omega
              rcases HC.out.ops.2 with ⟨hv, hn⟩ | ⟨bo, cap, cur, hv, hb1, hh, hcc, hcm, hs, ht⟩
              · subst hv
                go_wp2_with fail
                refine (apartO_none none 0 _).mono ?_
                rintro E w5 ⟨rfl, bel5⟩
                have O5 := HC.out.out
                clear HC
                go_wp2
                go_ret
                exact ⟨rfl, ((O5.drew n).trans (Out.of_below (F := fun _ => False) bel5) (fun g hg => hg.elim)).mono (fun g hg => .inl (.inl hg))⟩
              · obtain ⟨no, hno⟩ : ∃ x, (opsK zs i).length = x := ⟨_, rfl⟩
                rw [hno] at hv hcc
                subst hv
                have hle := HLN.out i (Nat.le_refl _)
                rw [hno] at hle
                by_cases hp : 0 < no
                · have LO := lists_ops H.out (HC.out.below (below_drewN (Below.refl _ _) n)) hno (by omega)
                  have AK := hide (apartO_keeps no bo cap base _ _ _ (by omega) hcc (by have := HC.out.lt; simp; omega) LO hp)
                  have HNO := hide hno
                  have O5 := HC.out.out
                  clear HC LO hno
                  go_wp2_with fail
                  refine AK.out.mono ?_
                  rintro E w5 ⟨rfl, out5⟩
                  have OF := hide ((O5.drew n).mono (G := OwnsC i vs zs) (fun g hg => .inl (.inl hg)))
                  have O6 := hide (OF.out.trans out5 (fun g hg => by
                    obtain ⟨j, hj, e⟩ := hg
                    obtain ⟨c, a, ha, hmm, _, e1, _⟩ := all_at (zs := zs) (m := i) (i := j) (by rw [HNO.out]; exact hj)
                    have e' : ((opsK zs i).getD j (.slice none 0 0)).ownBlock = some g := e
                    rw [e1] at e'
                    exact .inl (.inr ⟨a, ha, c, hmm, e'⟩)))
                  clear out5 AK O5
                  go_wp2
                  go_ret
                  exact ⟨rfl, O6.out⟩
                · have hp0 : no = 0 := by omega
                  subst hp0
                  go_wp2_with fail
                  refine (apartO_none _ _ _).mono ?_
                  rintro E w5 ⟨rfl, bel5⟩
                  have O5 := HC.out.out
                  clear HC
                  go_wp2
                  go_ret
                  exact ⟨rfl, ((O5.drew n).trans (Out.of_below (F := fun _ => False) bel5) (fun g hg => hg.elim)).mono (fun g hg => .inl (.inl hg))⟩

end Go.Proofs.Ytfnaeblbodfekaa
