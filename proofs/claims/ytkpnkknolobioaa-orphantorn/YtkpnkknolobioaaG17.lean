/- Texts of one layer, one behind the other. -/
import Derived.Test.YtkpnkknolobioaaG7
import Derived.Test.YtkpnkknolobioaaG14
import Derived.Test.YtkpnkknolobioaaG8
import Derived.Test.YtkpnkknolobioaaG16
import Derived.Test.YtkpnkknolobioaaG9
import Derived.Test.YtkpnkknolobioaaG12
/- The contracts of overOps and ApartOps. -/
namespace Go.Proofs.Ytkpnkknolobioaa
open Go.RowKit
set_option linter.unusedVariables false

/-- An op whose key is written over. -/
def til (o : Bm.Ov) : Bm.Ov := ⟨o.p, o.k ++ ⟨#[126]⟩, o.v⟩

/-- The first k written over. -/
def mid (l : List Bm.Ov) (k : Nat) : List Bm.Ov := (l.map til).take k ++ l.drop k

theorem mid_len (l : List Bm.Ov) (k : Nat) (h : k ≤ l.length) : (mid l k).length = l.length := by
  unfold mid
  rw [List.length_append, List.length_take, List.length_map, List.length_drop]
  omega

theorem mid_split (l : List Bm.Ov) (k : Nat) (h : k < l.length) : mid l k = (l.map til).take k ++ l[k] :: l.drop (k + 1) := by
  unfold mid
  rw [List.drop_eq_getElem_cons h]

theorem mid_next (l : List Bm.Ov) (k : Nat) (h : k < l.length) : mid l (k + 1) = (l.map til).take k ++ til l[k] :: l.drop (k + 1) := by
  unfold mid
  rw [List.take_succ_eq_append_getElem (by simpa using h), List.getElem_map, List.append_assoc]
  rfl

theorem midO_at (l : List Bm.Ov) (k : Nat) (h : k < l.length) : (ocells (mid l k))[k * 3 + 1]? = some (.string l[k].k) := by
  have hl : (ocells ((l.map til).take k)).length = k * 3 := by rw [ocells_len, List.length_take, List.length_map]; omega
  rw [mid_split l k h, ocells_app, List.getElem?_append_right (by omega), hl, show k * 3 + 1 - k * 3 = 1 by omega]
  rfl

theorem midO_set (l : List Bm.Ov) (k : Nat) (h : k < l.length) : (ocells (mid l k)).set (k * 3 + 1) (.string (l[k].k ++ ⟨#[126]⟩)) = ocells (mid l (k + 1)) := by
  have hl : (ocells ((l.map til).take k)).length = k * 3 := by rw [ocells_len, List.length_take, List.length_map]; omega
  rw [mid_split l k h, mid_next l k h, ocells_app, ocells_app, List.set_append_right _ _ (by omega), hl, show k * 3 + 1 - k * 3 = 1 by omega]
  rfl

/-- What stands in the spare room then. -/
def overC : List Value := [.bool false, .string ⟨#[111, 118, 101, 114]⟩, .string ⟨#[]⟩]

theorem cells_three_new (w : World) (x y z : Value) (t : TypeId) : ∀ j u, [x, y, z][j]? = some u → (w.alloc (.cells #[x, y, z] t)).cell? ((⟨w.heap.size, 0, none⟩ : Addr).add j) = some u := by
  intro j u hj
  rw [add_at]
  match j, hj with
  | 0, hj => simpa using hj
  | 1, hj => simpa using hj
  | 2, hj => simpa using hj
  | n + 3, hj => simp at hj

theorem own_frontO {w : World} {base e g n cap : Nat} {xs : List Value} (h : w.ownsRow base e 3 (.slice (some ⟨g, 0, none⟩) n cap) n xs) (m : Nat) (hm : m ≤ n) : w.ownsRow base e 3 (.slice (some ⟨g, 0, none⟩) m cap) m (xs.take (m * 3)) := by
  obtain ⟨h1, h2⟩ := h
  refine ⟨by rw [List.length_take]; omega, ?_⟩
  rcases h2 with ⟨h', _⟩ | ⟨g', cap', cur, h', hb, hg, hnc, hcm, hcs, htake⟩
  · simp at h'
  · simp only [Value.slice.injEq, Option.some.injEq, Addr.mk.injEq, and_true, true_and] at h'
    obtain ⟨rfl, rfl⟩ := h'
    refine .inr ⟨g, cap, cur, rfl, hb, hg, by omega, hcm, hcs, ?_⟩
    rw [← htake, List.take_take]
    congr 1
    omega

set_option maxHeartbeats 400000 in
theorem overO_full (g n cap base : Nat) (l : List Bm.Ov) (w : World) (hn : l.length = n) (hf : FitO l) (hown : w.ownsRow base 66 3 (.slice (some ⟨g, 0, none⟩) n cap) n (ocells l)) (hcm : cap ≤ maxLen) (hnc : n ≤ cap) :
    Calls Try.prog 87 #[.slice (some ⟨g, 0, none⟩) n cap] w fun e w' => e = .returned (.tuple #[]) ∧ w'.ownsRow base 66 3 (.slice (some ⟨g, 0, none⟩) n cap) n (ocells (l.map til)) ∧ w.grownBy w' (some g) := by
  unfold maxLen at hcm
  obtain ⟨i0, hi, hz0, hz1, hz2⟩ := info_parts Try.info66
  have HF := hide hf
  clear hf
  go_enter Try.func87, Try.ntmps87
  go_wp2
  go_loopw [3] (fun i wr => ∃ (k : Nat), k ≤ n ∧ i = .int .i64 k ∧ wr.ownsRow base 66 3 (.slice (some ⟨g, 0, none⟩) n cap) n (ocells (mid l k)) ∧ w.grownBy wr (some g)) (fun i _ => n - (intOf i).toNat)
  case atStart => exact ⟨0, by omega, rfl, by simpa [mid] using hown, World.grownBy.refl _ _⟩
  case round =>
    obtain ⟨k, hk, rfl, ho, hg⟩ := hrel
    by_cases hlt : k < n
    · have hz : k < l.length := by omega
      have g1 : wr.cell? ⟨g, k * 3 + 1, none⟩ = some (.string l[k].k) := by rw [ho.cellAt (k * 3 + 1) (by omega)]; exact midO_at l k hz
      have g2 := ho.frozenAt (k * 3 + 1)
      have hlt' : (k : Int) < n := by omega
      have hs := ho.stored (k * 3 + 1) (.string (l[k].k ++ ⟨#[126]⟩))
      rw [midO_set l k hz] at hs
      have hfit : ¬ 9223372036854775807 < l[k].k.size + 1 := by have := (HF.out l[k] (List.getElem_mem hz)).1; omega
      have HS := hide hs
      have HG := hide hg
      generalize l[k].k = key at *
      clear hs ho hg
      go_wp2
      go_roundw
      case rel => exact ⟨k + 1, by omega, by go_num, HS.out.1, grown_trans HG.out HS.out.2⟩
      case measure => simp [intOf]; omega
    · have hkn : k = n := by omega
      have ho2 : wr.ownsRow base 66 3 (.slice (some ⟨g, 0, none⟩) n cap) n (ocells (l.map til)) := by
        have h1 : mid l k = l.map til := by
          unfold mid
          rw [List.take_of_length_le (by simp; omega), List.drop_eq_nil_of_le (by omega), List.append_nil]
        rw [h1] at ho
        exact ho
      obtain ⟨cs, hcs⟩ : ∃ cs, cs = ocells (l.map til) := ⟨_, rfl⟩
      rw [← hcs] at ho2
      have HCS := hide hcs
      clear ho hkn hcs
      go_wp2
      go_loopw [0] (fun lv wr => ∃ (m : Nat) (ys : List Value), n ≤ m ∧ m ≤ cap ∧ lv = .slice (some ⟨g, 0, none⟩) m cap ∧ wr.ownsRow base 66 3 (.slice (some ⟨g, 0, none⟩) m cap) m (cs ++ ys) ∧ w.grownBy wr (some g)) (fun lv _ => cap - lenOf lv)
      case atStart => exact ⟨n, [], Nat.le_refl _, hnc, rfl, by simpa using ho2, hg⟩
      case round =>
        obtain ⟨m, ys, hm1, hm2, rfl, ho3, hg3⟩ := hrel
        clear ho2 hg
        by_cases hlt2 : m < cap
        · have hlt3 : (m : Int) < cap := by omega
          go_wp2_with (at_builtin; refine wpList_append_fits _ rfl (.tmp 26) (.tmp 28) 30 rfl base 66 i0 3 Try.underlying30 hi hz1 g m cap _ rfl (ho3.alloc _) ⟨wr.heap.size, 0, none⟩ 1 1 overC rfl rfl (cells_three_new _ _ _ _ _) (by intro u hu; simp [overC] at hu; rcases hu with rfl | rfl | rfl <;> rfl) (by omega) ?_)
          intro w2 ho4 hg4
          have hg5 := grown_trans hg3 (grown_trans (World.grownBy_alloc _ _ _) hg4)
          clear ho3 hg3 hg4
          go_wp2
          go_roundw
          case rel => exact ⟨m + 1, ys ++ overC, by omega, by omega, rfl, by simpa using ho4, hg5⟩
          case measure => simp [lenOf]; omega
        · go_wp2
          go_end0
          refine ⟨rfl, ?_, hg3⟩
          have := own_frontO ho3 n hm1
          rw [List.take_left' (by rw [HCS.out, ocells_len, List.length_map, hn]), HCS.out] at this
          exact this

theorem overO_any (v : Value) (l : List Bm.Ov) (base : Nat) (w : World) (h : OwnO 66 base w v l) (hf : FitO l) :
    Calls Try.prog 87 #[v] w fun e w' => e = .returned (.tuple #[]) ∧ OwnO 66 base w' v (l.map til) ∧ w.grownBy w' v.ownBlock := by
  rcases h.2 with ⟨hv, hn⟩ | ⟨g, cap, cur, hv, h1, hh, hc, hm, hs, ht⟩
  · have hz : l = [] := List.eq_nil_of_length_eq_zero hn
    subst hz hv
    go_enter Try.func87, Try.ntmps87
    go_wp2
    refine wp_loop_rounds 1 ?_
    rw [rounds_succ]
    go_wp2
    refine wp_loop_rounds 1 ?_
    rw [rounds_succ]
    go_wp2
    go_end0
    exact ⟨rfl, OwnO.nil _ _ _, World.grownBy.refl _ _⟩
  · subst hv
    refine (overO_full g l.length cap base l w rfl hf h hm hc).mono ?_
    rintro e w' ⟨rfl, ho, hg⟩
    exact ⟨rfl, by unfold OwnO; rw [List.length_map]; exact ho, hg⟩

theorem Try.info30 : (Try.prog.info? 30).map (fun i => (i.zero, i.size, i.bytes)) = some (some (.slice none 0 0), 1, 24) := by kernel_rfl

theorem sameO_bool (va vb : Value) (xs : List Bm.Ov) (w : World) (ha : IsO w va xs) (hb : IsO w vb xs) (hl : xs.length ≤ 140737488355328) :
    Calls Try.prog 84 #[va, vb] w fun e w' => e = .returned (.bool true) ∧ ∃ m, w' = w.drewN m := by
  have := sameO_quiet va vb xs xs w ha hb hl hl
  rw [Bm.sameL_self] at this
  exact this

/-- What the lists are, ahead of ApartOps. -/
structure ListsO (m bl base : Nat) (w : World) (vs : Nat → Value) (zs : Nat → List Bm.Ov) : Prop where
  cell : ∀ i, i < m → w.cell? ⟨bl, i, none⟩ = some (vs i)
  own : ∀ i, i < m → OwnO 66 base w (vs i) (zs i)
  apart : ∀ i j, i < m → j < m → i ≠ j → (vs i).ownBlock = none ∨ (vs i).ownBlock ≠ (vs j).ownBlock
  table : ∀ i, i < m → (vs i).ownBlock ≠ some bl
  lens : ∀ i, i < m → (zs i).length ≤ 2000
  fit : ∀ i, i < m → FitO (zs i)

/-- A block that one of the lists has. -/
def OwnsB (m : Nat) (vs : Nat → Value) (g : Nat) : Prop := ∃ i, i < m ∧ (vs i).ownBlock = some g

/-- Behind the first loop: a copy of each. -/
structure CopiesO (m bl base : Nat) (w0 wr : World) (vs us : Nat → Value) (zs : Nat → List Bm.Ov) (k : Nat) : Prop where
  cell : ∀ i, i < m → wr.cell? ⟨bl, i, none⟩ = some (vs i)
  was : ∀ i, i < m → wr.cell? ⟨w0.heap.size, i, none⟩ = some (us i)
  new : ∀ i, i < m → OwnO 66 (w0.heap.size + 1) wr (us i) (zs i)
  done : ∀ i, i < k → i < m → OwnO 66 base wr (vs i) ((zs i).map til)
  left : ∀ i, k ≤ i → i < m → OwnO 66 base wr (vs i) (zs i)
  below : Out (OwnsB m vs) w0 wr

theorem copiesO_step {m B k : Nat} {w wr w1 : World} {xs : List Value} {u : Value} {zs : Nat → List Bm.Ov} (hk : k < m) (ho : w1.ownsRow B 30 1 (.slice (some ⟨B, 0, none⟩) m m) m xs)
    (hc : ∀ j, j < k → OwnO 66 (B + 1) wr (xs.getD j (.slice none 0 0)) (zs j)) (bel : Below B w wr) (hs : B < wr.heap.size) (ownu : OwnO 66 wr.heap.size w1 u (zs k)) (belu : Below wr.heap.size wr w1) :
    (w1.setCell ⟨B, k, none⟩ u).ownsRow B 30 1 (.slice (some ⟨B, 0, none⟩) m m) m (xs.set k u) ∧ (∀ j, j < k + 1 → OwnO 66 (B + 1) (w1.setCell ⟨B, k, none⟩ u) ((xs.set k u).getD j (.slice none 0 0)) (zs j)) ∧
      Below B w (w1.setCell ⟨B, k, none⟩ u) ∧ B < (w1.setCell ⟨B, k, none⟩ u).heap.size := by
  have hst := ho.stored k u
  have hl : xs.length = m := by have := ho.1; omega
  refine ⟨hst.1, fun j hj => ?_, (bel.trans (belu.mono (by omega))).setCell (Nat.le_refl _) _, ?_⟩
  · by_cases hjk : j = k
    · subst hjk
      have e : (xs.set j u).getD j (.slice none 0 0) = u := by simp [hl, hk]
      rw [e]
      refine (ownu.rebase (by omega)).kept hst.2 ?_
      cases hb : u.ownBlock with
      | none => exact .inl rfl
      | some b => exact .inr (by have := ownu.block b hb; simp; omega)
    · have e : (xs.set k u).getD j (.slice none 0 0) = xs.getD j (.slice none 0 0) := by
        simp [List.getD, List.getElem?_set_ne (Ne.symm hjk)]
      rw [e]
      have h1 := hc j (by omega)
      refine (h1.below belu).kept hst.2 ?_
      cases hb : (xs.getD j (.slice none 0 0)).ownBlock with
      | none => exact .inl rfl
      | some b => exact .inr (by have := h1.block b hb; simp; omega)
  · have := hst.2.size
    have := belu.size
    omega

theorem copiesO_start {m bl B base : Nat} {w wr : World} {xs : List Value} {vs : Nat → Value} {zs : Nat → List Bm.Ov} (hB : B = w.heap.size) (hm0 : 0 < m) (hbase : base ≤ B) (H : ListsO m bl base w vs zs) (ho : wr.ownsRow B 30 1 (.slice (some ⟨B, 0, none⟩) m m) m xs)
    (hc : ∀ j, j < m → OwnO 66 (B + 1) wr (xs.getD j (.slice none 0 0)) (zs j)) (bel : Below B w wr) : CopiesO m bl base w wr vs (fun j => xs.getD j (.slice none 0 0)) zs 0 := by
  subst hB
  have hl : xs.length = m := by have := ho.1; omega
  exact ⟨fun i hi => (bel.cell (p := ⟨bl, i, none⟩) (World.block_lt_of_cell? _ _ (H.cell i hi))).trans (H.cell i hi),
    fun i hi => by rw [ho.cellAt i (by omega)]; simp [List.getD, List.getElem?_eq_getElem (show i < xs.length by omega)],
    hc, fun i h0 => absurd h0 (by omega), fun i _ hi => (H.own i hi).below bel, Out.of_below bel⟩

theorem copiesO_over {m bl base k : Nat} {w wr w2 : World} {vs us : Nat → Value} {zs : Nat → List Bm.Ov} (hk : k < m) (hbase : base ≤ w.heap.size) (hsz : w.heap.size ≤ wr.heap.size) (H : ListsO m bl base w vs zs) (C : CopiesO m bl base w wr vs us zs k)
    (ho : OwnO 66 base w2 (vs k) ((zs k).map til)) (hg : wr.grownBy w2 (vs k).ownBlock) : CopiesO m bl base w w2 vs us zs (k + 1) := by
  have hvk : ∀ b, (vs k).ownBlock = some b → base ≤ b ∧ b < w.heap.size := (H.own k hk).block
  have other : ∀ i, i < m → i ≠ k → (vs i).ownBlock = none ∨ (vs i).ownBlock ≠ (vs k).ownBlock := fun i hi hne => H.apart i k hi hk hne
  refine ⟨fun i hi => hg.cell (C.cell i hi) (fun e => H.table k hk e.symm), fun i hi => hg.cell (C.was i hi) (fun e => by have := hvk _ e.symm; simp at this), fun i hi => (C.new i hi).kept hg ?_, fun i h1 hi => ?_, fun i h1 hi => ?_, ?_⟩
  · cases hb : (us i).ownBlock with
    | none => exact .inl rfl
    | some b =>
      refine .inr fun e => ?_
      have h1 := (C.new i hi).block b hb
      have h2 := hvk b e.symm
      omega
  · by_cases e : i = k
    · subst e; exact ho
    · exact (C.done i (by omega) hi).kept hg (other i hi e)
  · exact (C.left i (by omega) hi).kept hg (other i hi (by omega))
  · exact C.below.trans (Out.of_grown hg (fun b hb => ⟨k, hk, hb⟩)) (fun g h => .inl h)

set_option maxHeartbeats 1600000 in
theorem apartO_keeps (m bl cl base : Nat) (vs : Nat → Value) (zs : Nat → List Bm.Ov) (w : World) (hm : m ≤ 1000000) (hcl : m ≤ cl) (hbase : base ≤ w.heap.size) (h : ListsO m bl base w vs zs) (hm0 : 0 < m) :
    Calls Try.prog 53 #[.slice (some ⟨bl, 0, none⟩) m cl] w fun e w' => e = .returned (.bool true) ∧ Out (OwnsB m vs) w w' := by
  obtain ⟨i0, hi, hz0, hz1, hz2⟩ := info_parts Try.info30
  have hbl : bl < w.heap.size := World.block_lt_of_cell? _ _ (h.cell 0 hm0)
  have H := hide h
  clear h
  go_enter Try.func53, Try.ntmps53
  go_wp2_with (at_make; refine wpList_make_full _ rfl _ _ 78 rfl w.heap.size 30 i0 (.slice none 0 0) 1 Try.underlying78 hi hz0 hz1 _ _ _ _ m rfl rfl (by omega) (by omega) ?b2 ?b3 (Nat.le_refl _) ?_)
  case b2 => rw [hz2]; omega
  case b3 => unfold maxLen; omega
  intro w0 hown0 hgrow0
  have bel0 : Below w.heap.size w w0 := (Below.refl _ _).grown hgrow0 (Nat.le_refl _) (by simp)
  obtain ⟨xs0, hown1⟩ : ∃ xs0, w0.ownsRow w.heap.size 30 1 (.slice (some ⟨w.heap.size, 0, none⟩) m m) m xs0 := ⟨_, hown0⟩
  clear hown0 hgrow0
  go_wp2
  go_loopw [4] (fun ii wr => ∃ (k : Nat) (xs : List Value), k ≤ m ∧ ii = .int .i64 k ∧ wr.ownsRow w.heap.size 30 1 (.slice (some ⟨w.heap.size, 0, none⟩) m m) m xs ∧ (∀ j, j < k → OwnO 66 (w.heap.size + 1) wr (xs.getD j (.slice none 0 0)) (zs j)) ∧ Below w.heap.size w wr ∧ w.heap.size < wr.heap.size) (fun ii _ => m - (intOf ii).toNat)
  case atStart => exact ⟨0, xs0, by omega, rfl, hown1, fun j hj => absurd hj (by omega), bel0, (hown1.lt _ rfl).2⟩
  case round =>
    clear hown1 bel0
    obtain ⟨k, xs, hk, rfl, ho, hcop, bel, hsz⟩ := hrel
    have HC := hide hcop
    clear hcop
    by_cases hlt : k < m
    · have g1 := (bel.cell (p := ⟨bl, k, none⟩) hbl).trans (H.out.cell k hlt)
      have hlt' : (k : Int) < m := by omega
      have hxl : xs.length = m := by have := ho.1; omega
      go_wp2_with (go_at_call 86; refine (copyO_any _ _ _ (((H.out.own k hlt).is).below bel) (by have := H.out.lens k hlt; omega)).mono ?_; rintro E w1 ⟨u, rfl, ownu, belu⟩; have ho1 := ownrow_below ho belu; have g2 := (ho1.cellAt k (by omega)).trans (List.getElem?_eq_getElem (by rw [hxl]; exact hlt)); have g3 := ho1.frozenAt k; obtain ⟨au, cu, rfl, _, _⟩ := ownu.is.shape)
      have R := copiesO_step hlt ho1 HC.out bel hsz ownu belu
      clear ho1 ownu belu g1 g2 g3 ho
      go_roundw
      case rel => exact ⟨k + 1, xs.set k _, by omega, by go_num, R.1, R.2.1, R.2.2.1, R.2.2.2⟩
      case measure => simp [intOf]; omega
    · have hkm : k = m := by omega
      have C0 := copiesO_start rfl hm0 hbase H.out ho (by have := HC.out; rw [hkm] at this; exact this) bel
      generalize (fun j => xs.getD j (.slice none 0 0)) = us at C0
      clear ho HC hkm
      go_wp2
      go_loopw [5] (fun ii wr => ∃ (k : Nat), k ≤ m ∧ ii = .int .i64 k ∧ CopiesO m bl base w wr vs us zs k ∧ w.heap.size < wr.heap.size) (fun ii _ => m - (intOf ii).toNat)
      case atStart => exact ⟨0, by omega, rfl, C0, hsz⟩
      case round =>
        clear C0 bel hsz hlt hk
        obtain ⟨i, hi, rfl, C, hsz⟩ := hrel
        have HC := hide C
        by_cases hlt : i < m
        · have g1 := C.cell i hlt
          have g2 := C.was i hlt
          have hlt' : (i : Int) < m := by omega
          have o1 := C.left i (Nat.le_refl _) hlt
          have o2 := C.new i hlt
          have hl := H.out.lens i hlt
          clear C
          go_wp2
          go_quiet ((go_at_call 84; refine Calls.quiet_of (sameO_bool _ _ (zs i) _ (o1.is.drewN _) (o2.is.drewN _) (by omega))))
          go_wp2_with fail
          refine (overO_any _ _ base _ (o1.below (below_drewN (Below.refl _ _) nq)) (H.out.fit i hlt)).mono ?_
          rintro E w2 ⟨rfl, o3, hg3⟩
          have C2 := copiesO_over hlt hbase (by omega) H.out HC.out o3 (grown_trans (grown_drewN _ _ _) hg3)
          have hs2 : w.heap.size < w2.heap.size := by have := hg3.size; simp at this; omega
          clear o1 o2 o3 hg3 HC g1 g2 hl
          go_wp2
          go_roundw
          case rel => exact ⟨i + 1, by omega, by go_num, C2, hs2⟩
          case measure => simp [intOf]; omega
        · have him : i = m := by omega
          subst him
          clear hlt
          go_wp2
          go_loopw [6, 7] (fun ii _ wx => ∃ (k n : Nat), k ≤ i ∧ ii = .int .i64 k ∧ wx = wr.drewN n) (fun ii _ _ => i - (intOf ii).toNat)
          case atStart => exact ⟨0, 0, by omega, rfl, rfl⟩
          case round =>
            obtain ⟨k, n, hk, rfl, rfl⟩ := hrel
            by_cases hlt : k < i
            · have g1 := C.cell k hlt
              have g2 := C.was k hlt
              have hlt' : (k : Int) < i := by omega
              have o1 := C.done k hlt hlt
              have o2 := C.new k hlt
              have hl := H.out.lens k hlt
              have HF := hide (H.out.fit k hlt)
              clear C
              by_cases hz : 0 < (zs k).length
              · obtain ⟨b1, f1, c1, hv1, hc1, hm1, _, he1⟩ := o1.is.full (by simpa using hz)
                obtain ⟨b2, f2, c2, hv2, hc2, hm2, _, he2⟩ := o2.is.full hz
                rw [hv1, List.length_map] at g1
                rw [hv2] at g2
                rw [List.length_map] at hc1
                have H1 := hide he1
                have H2 := hide he2
                clear he1 he2 hv1 hv2 o1 o2
                generalize hL : (zs k).length = L at *
                have HLL := hide hL
                clear hL
                go_wp2
                go_loopw [7] (fun kk wx => ∃ (j n : Nat), j ≤ L ∧ kk = .int .i64 j ∧ wx = wr.drewN n) (fun kk _ => L - (intOf kk).toNat)
                case atStart => exact ⟨0, n, by omega, rfl, rfl⟩
                case round =>
                  obtain ⟨j, n2, hj, rfl, rfl⟩ := hrel
                  by_cases hjl : j < L
                  · have hjl' : (j : Int) < L := by omega
                    obtain ⟨o, ho⟩ : ∃ o, (zs k)[j]? = some o := ⟨(zs k)[j]'(by rw [HLL.out]; exact hjl), by rw [List.getElem?_eq_getElem]⟩
                    have g3 := (H1.out j (til o) (by rw [List.getElem?_map, ho]; rfl)).2.1
                    have g4 := (H2.out j o ho).2.1
                    have hfo := (HF.out o (List.mem_of_getElem? ho)).1
                    have e3 : (til o).k = o.k ++ ⟨#[126]⟩ := rfl
                    rw [e3] at g3
                    have hfit : ¬ 9223372036854775807 < o.k.size + 1 := by omega
                    clear ho e3
                    generalize o.k = key at *
                    go_wp2
                    go_quiet (fail)
                    go_wp2
                    go_roundw
                    case rel => exact ⟨j + 1, _, by omega, by go_num, rfl⟩
                    case measure => simp [intOf]; omega
                  · go_wp2
                    go_roundw
                    case rel => exact ⟨k + 1, _, by omega, by go_num, rfl⟩
                    case measure => simp [intOf]; omega
              · obtain ⟨a1, c1, hv1, hc1, hm1⟩ := o1.is.shape
                have hz0 : (zs k).length = 0 := by omega
                rw [hv1, List.length_map, hz0] at g1
                clear hv1 hc1 o1 o2 g2 hl hz0 hz
                go_wp2
                refine wp_loop_rounds 1 ?_
                rw [rounds_succ]
                go_wp2
                go_roundw
                case rel => exact ⟨k + 1, _, by omega, by go_num, rfl⟩
                case measure => simp [intOf]; omega
            · go_wp2
              go_ret
              exact ⟨rfl, C.below.drew _⟩

theorem apartO_yes (m bl cl base : Nat) (vs : Nat → Value) (zs : Nat → List Bm.Ov) (w : World) (hm : m ≤ 1000000) (hcl : m ≤ cl) (hbase : base ≤ w.heap.size) (h : ListsO m bl base w vs zs) (hm0 : 0 < m) :
    Calls Try.prog 53 #[.slice (some ⟨bl, 0, none⟩) m cl] w fun e w' => e = .returned (.bool true) ∧ Below base w w' :=
  (apartO_keeps m bl cl base vs zs w hm hcl hbase h hm0).mono (by
    rintro E w' ⟨h1, h2⟩
    exact ⟨h1, h2.below (fun g hg => by obtain ⟨i, hi, e⟩ := hg; exact ((h.own i hi).block g e).1) hbase⟩)

/-- Two lists in a table. -/
def duo {α : Type} (a b : α) : Nat → α | 0 => a | _ => b

theorem listsO_two {base : Nat} {w : World} {va vf : Value} {za zf : List Bm.Ov} {s1 : Nat} (ha : OwnO 66 s1 w va za) (hf : OwnO 66 base w vf zf)
    (h1 : ∀ b, vf.ownBlock = some b → b < s1) (hb1 : base ≤ s1) (la : za.length ≤ 2000) (lf : zf.length ≤ 2000) (fa : FitO za) (ff : FitO zf) :
    ListsO 2 w.heap.size base (w.alloc (.cells #[vf, va] 30)) (duo vf va) (duo zf za) := by
  have bel : Below w.heap.size w (w.alloc (.cells #[vf, va] 30)) := (Below.refl _ _).alloc (Nat.le_refl _) _
  have ha' := (ha.below bel).rebase (by omega : base ≤ s1)
  have hf' := hf.below bel
  have two : ∀ i, i < 2 → i = 0 ∨ i = 1 := by omega
  have ba := ha.block
  have bf := hf.block
  refine ⟨fun i hi => ?_, fun i hi => ?_, fun i j hi hj hne => ?_, fun i hi => ?_, fun i hi => ?_, fun i hi => ?_⟩
  · rcases two i hi with rfl | rfl <;> simp [duo]
  · rcases two i hi with rfl | rfl
    · exact hf'
    · exact ha'
  · have key : ∀ u v : Value, (∀ b d, u.ownBlock = some b → v.ownBlock = some d → b ≠ d) → u.ownBlock = none ∨ u.ownBlock ≠ v.ownBlock := by
      intro u v h
      cases hu : u.ownBlock with
      | none => exact .inl rfl
      | some b => exact .inr fun e => h b b hu e.symm rfl
    rcases two i hi with rfl | rfl <;> rcases two j hj with rfl | rfl <;> first | exact absurd rfl hne | skip
    all_goals
      refine key _ _ fun b d hb hd => ?_
      simp only [duo] at hb hd
    · have := h1 b hb; have := ba d hd; omega
    · have := ba b hb; have := h1 d hd; omega
  · intro e
    rcases two i hi with rfl | rfl
    · have := bf _ e; omega
    · have := ba _ e; omega
  · rcases two i hi with rfl | rfl
    · exact lf
    · exact la
  · rcases two i hi with rfl | rfl
    · exact ff
    · exact fa

end Go.Proofs.Ytkpnkknolobioaa

/- The contracts of OpsOf and overCommits. -/
namespace Go.Proofs.Ytkpnkknolobioaa
open Go.RowKit
set_option linter.unusedVariables false

/-- A value alone. -/
def one (v : Value) : List Value := [v]
theorem one_len (v : Value) : (one v).length = 1 := rfl

theorem gcells_one : ∀ (m : List Value), gcells one m = m
  | [] => rfl
  | v :: m => by
    have := gcells_one m
    simp only [gcells, one] at this ⊢
    rw [this]
    rfl

theorem row_keepT {e e' base size n : Nat} {w w' : World} {v : Value} {xs : List Value} (h : w.ownsRow base e size v n xs) (k : KeepT e' w w') (hne : e ≠ e') : w'.ownsRow base e size v n xs := by
  refine ⟨h.1, ?_⟩
  rcases h.2 with h | ⟨g, cap, cur, hv, h1, hh, r⟩
  · exact .inl h
  · exact .inr ⟨g, cap, cur, hv, h1, k _ _ _ _ hh hne, r⟩

/-- 'append(out, xs...)' of lists of ops. -/
theorem wpList_append_lls {w : World} {ops : Array Oper} {rest : List Oper} {o : Oper} {a : Act} {Q : Exit → Act → World → Prop} (hgd : o.guard = none) (s x : Operand)
    (ho : o.op = .call { callee := .builtin .append, args := #[s, x], argTypes := #[78, 78] })
    (base : Nat) (v : Value) (l : List Value) (hs : a.eval s = v) (hown : OwnG one 1 30 base w v l) (vx : Value) (m : List Value) (hx : a.eval x = vx) (his : RowG one w vx m) (hone : ∀ u ∈ m, u.oneCell' = true)
    (hlen : (l.length + m.length) * 24 ≤ 140737488355328) (hbase : base ≤ w.heap.size)
    (h : ∀ v' w', OwnG one 1 30 base w' v' (l ++ m) → Below base w w' → w.grownBy w' v.ownBlock → wpList Try.prog ops Q rest (a.put o.dst v') w') : wpList Try.prog ops Q (o :: rest) a w :=
  wpList_append_rows one 1 24 one_len (by decide) (by decide) (.slice none 0 0) rfl hgd s x 78 ho 30 base Try.underlying78 Try.info30 v l hs hown vx m hx his (fun u hu => hone u (by rw [gcells_one] at hu; exact hu)) hlen hbase
    fun v' w' h1 h2 => h v' w' h1 ((Below.refl _ _).grown h2 hbase fun k hk => (OwnG.lt hown k hk).1) h2

theorem lls_step (w : World) (v : Value) : ∃ W, w.alloc (.cells #[v] 30) = W ∧ W.heap.size = w.heap.size + 1 ∧ Below w.heap.size w W ∧ OwnG one 1 30 w.heap.size W (.slice (some ⟨w.heap.size, 0, none⟩) 1 1) [v] :=
  rows_step one 1 one_len 30 w #[v] 1 [v] rfl rfl (by simp [maxLen])

set_option maxHeartbeats 1000000 in
theorem opsOf_any (vl : Value) (r : List Cw) (w : World) (h : IsC w vl r) (hl : r.length ≤ 1000) :
    Calls Try.prog 51 #[vl] w fun E w' => ∃ v, E = .returned v ∧ OwnG one 1 30 w.heap.size w' v (r.map Cw.v) ∧ Below w.heap.size w w' := by
  obtain ⟨ao, cap, hvl, _, _⟩ := h.1.shape
  have hcell : 0 < r.length → ∃ b1 o1 c1, vl = .slice (some ⟨b1, o1, none⟩) r.length c1 ∧ b1 < w.heap.size ∧ ∀ i c, r[i]? = some c → w.cell? ⟨b1, o1 + i * 3, none⟩ = some (.int .i64 c.e) ∧ w.cell? ⟨b1, o1 + i * 3 + 1, none⟩ = some (.int .i64 c.n) ∧ w.cell? ⟨b1, o1 + i * 3 + 2, none⟩ = some c.v := by
    intro hp
    obtain ⟨b1, o1, c1, hv, _, _, hB, hc⟩ := h.1.full hp
    exact ⟨b1, o1, c1, hv, hB, hc⟩
  have HC := hide hcell
  have HO : Hid (∀ c ∈ r, c.v.oneCell' = true) := hide h.2.one
  have HI := hide h.2
  subst hvl
  clear h hcell
  by_cases hz : r.length = 0
  · have : r = [] := List.eq_nil_of_length_eq_zero hz
    subst this
    go_enter Try.func51, Try.ntmps51
    go_wp2
    refine wp_loop_rounds 1 ?_
    rw [rounds_succ]
    go_wp2
    go_ret
    exact ⟨_, rfl, OwnG.nil _ _ _ _ _, Below.refl _ _⟩
  obtain ⟨b1, o1, c1, hv, hB, hcl⟩ := HC.out (by omega)
  simp only [Value.slice.injEq, true_and] at hv
  obtain ⟨rfl, rfl⟩ := hv
  have HCL := hide hcl
  obtain ⟨n, hn⟩ : ∃ n, r.length = n := ⟨_, rfl⟩
  rw [hn]
  have HN := hide hn
  rw [hn] at hl
  clear hcl HC hz hn
  go_enter Try.func51, Try.ntmps51
  go_wp2
  go_loopw [3, 4] (fun ov iv wr => ∃ k : Nat, k ≤ n ∧ iv = .int .i64 k ∧ Hid (OwnG one 1 30 w.heap.size wr ov ((r.map Cw.v).take k)) ∧ Below w.heap.size w wr) (fun _ iv _ => n - (intOf iv).toNat)
  case atStart => exact ⟨0, by omega, rfl, hide (OwnG.nil _ _ _ _ _), Below.refl _ _⟩
  case round =>
    obtain ⟨k, hk, rfl, ho, bel⟩ := hrel
    have sz := bel.size
    by_cases hlt : k < n
    · have hlt' : (k : Int) < n := by omega
      obtain ⟨c, hc⟩ := at_of (l := r) (k := k) (by rw [HN.out]; exact hlt)
      have d2 := (bel.cell (p := ⟨b1, o1 + k * 3 + 2, none⟩) hB).trans (HCL.out k c hc).2.2
      obtain ⟨ax, cx, hcv, _, _⟩ := (HI.out c (List.mem_of_getElem? hc)).1.shape
      rw [hcv] at d2
      have HR : Hid ((r.map Cw.v).take k ++ [.slice ax c.l.length cx] = (r.map Cw.v).take (k + 1)) := hide (by
        rw [List.take_add_one, List.getElem?_map, hc, ← hcv]; rfl)
      have hkl : ((r.map Cw.v).take k).length = k := by rw [List.length_take, List.length_map, HN.out]; omega
      have HKL := hide hkl
      obtain ⟨W, hW, szW, belW, ownW⟩ := lls_step wr (.slice ax c.l.length cx)
      have ho2 : OwnG one 1 30 w.heap.size W u3 ((r.map Cw.v).take k) := row_below ho.out belW
      have bel2 := bel.trans (belW.mono sz)
      have sz2 := bel2.size
      clear hc hkl hcv ho
      go_wp2_with (at_builtin; refine wpList_append_lls rfl (.tmp 11) (.tmp 17) rfl w.heap.size _ _ rfl ho2 _ _ rfl ownW.row (by simp [Value.oneCell']) (by rw [HKL.out, List.length_singleton]; omega) (by omega) ?_)
      intro v4 w4 own4 bel4 gr4
      rw [HR.out] at own4
      have H4 := hide own4
      have bel5 := bel2.trans bel4
      clear own4 bel4 gr4 ownW ho2 hW
      go_wp2
      go_roundw
      case rel => exact ⟨k + 1, by omega, by go_num, H4, bel5⟩
      case measure => simp [intOf]; omega
    · have hkn : k = n := by omega
      have hge : ¬ (k : Int) < n := by omega
      have H4 : Hid (OwnG one 1 30 w.heap.size wr u3 (r.map Cw.v)) := hide (by
        have := ho.out
        rw [List.take_of_length_le (by rw [List.length_map, HN.out]; omega)] at this
        exact this)
      clear ho
      go_wp2
      go_ret
      exact ⟨_, rfl, H4.out, bel⟩

/-- An epoch that is written over. -/
def nt (x : Int) : Int := bits BinOp.xor IntKind.i64 (if IntKind.i64.signed = true then -1 else 9223372036854775807) x
/-- A commit whose epoch is written over. -/
def ntC (c : Cw) : Cw := ⟨nt c.e, c.n, c.v, c.l⟩

/-- The first k written over. -/
def midC (l : List Cw) (k : Nat) : List Cw := (l.map ntC).take k ++ l.drop k

theorem midC_split (l : List Cw) (k : Nat) (h : k < l.length) : midC l k = (l.map ntC).take k ++ l[k] :: l.drop (k + 1) := by
  unfold midC
  rw [List.drop_eq_getElem_cons h]

theorem midC_next (l : List Cw) (k : Nat) (h : k < l.length) : midC l (k + 1) = (l.map ntC).take k ++ ntC l[k] :: l.drop (k + 1) := by
  unfold midC
  rw [List.take_succ_eq_append_getElem (by simpa using h), List.getElem_map, List.append_assoc]
  rfl

theorem midC_at (l : List Cw) (k : Nat) (h : k < l.length) : (ccells (midC l k))[k * 3]? = some (.int .i64 l[k].e) := by
  have hl : (ccells ((l.map ntC).take k)).length = k * 3 := by rw [ccells_len, List.length_take, List.length_map]; omega
  rw [midC_split l k h, ccells_app, List.getElem?_append_right (by omega), hl, show k * 3 - k * 3 = 0 by omega]
  rfl

theorem midC_set (l : List Cw) (k : Nat) (h : k < l.length) : (ccells (midC l k)).set (k * 3) (.int .i64 (nt l[k].e)) = ccells (midC l (k + 1)) := by
  have hl : (ccells ((l.map ntC).take k)).length = k * 3 := by rw [ccells_len, List.length_take, List.length_map]; omega
  rw [midC_split l k h, midC_next l k h, ccells_app, ccells_app, List.set_append_right _ _ (by omega), hl, show k * 3 - k * 3 = 0 by omega]
  rfl

/-- What stands in the spare room then. -/
def overK : List Value := [.int .i64 99, .int .i64 0, .slice none 0 0]

set_option maxHeartbeats 1000000 in
theorem overC_full (g n cap base : Nat) (l : List Cw) (w : World) (hn : l.length = n) (hown : w.ownsRow base 32 3 (.slice (some ⟨g, 0, none⟩) n cap) n (ccells l)) (hcm : cap ≤ maxLen) (hnc : n ≤ cap) :
    Calls Try.prog 52 #[.slice (some ⟨g, 0, none⟩) n cap] w fun e w' => e = .returned (.tuple #[]) ∧ w'.ownsRow base 32 3 (.slice (some ⟨g, 0, none⟩) n cap) n (ccells (l.map ntC)) ∧ w.grownBy w' (some g) := by
  unfold maxLen at hcm
  obtain ⟨i0, hi, hz0, hz1, hz2⟩ := info_parts Try.info32
  go_enter Try.func52, Try.ntmps52
  go_wp2
  go_loopw [3] (fun i wr => ∃ (k : Nat), k ≤ n ∧ i = .int .i64 k ∧ wr.ownsRow base 32 3 (.slice (some ⟨g, 0, none⟩) n cap) n (ccells (midC l k)) ∧ w.grownBy wr (some g)) (fun i _ => n - (intOf i).toNat)
  case atStart => exact ⟨0, by omega, rfl, by simpa [midC] using hown, World.grownBy.refl _ _⟩
  case round =>
    obtain ⟨k, hk, rfl, ho, hg⟩ := hrel
    by_cases hlt : k < n
    · have hz : k < l.length := by omega
      have g1 : wr.cell? ⟨g, k * 3, none⟩ = some (.int .i64 l[k].e) := by rw [ho.cellAt (k * 3) (by omega)]; exact midC_at l k hz
      have g2 := ho.frozenAt (k * 3)
      have hlt' : (k : Int) < n := by omega
      have hs := ho.stored (k * 3) (.int .i64 (nt l[k].e))
      rw [midC_set l k hz] at hs
      have HS := hide hs
      have HG := hide hg
      generalize l[k].e = ee at *
      clear hs ho hg
      go_wp2
      go_roundw
      case rel => exact ⟨k + 1, by omega, by go_num, HS.out.1, grown_trans HG.out HS.out.2⟩
      case measure => simp [intOf]; omega
    · have hkn : k = n := by omega
      have ho2 : wr.ownsRow base 32 3 (.slice (some ⟨g, 0, none⟩) n cap) n (ccells (l.map ntC)) := by
        have h1 : midC l k = l.map ntC := by
          unfold midC
          rw [List.take_of_length_le (by simp; omega), List.drop_eq_nil_of_le (by omega), List.append_nil]
        rw [h1] at ho
        exact ho
      obtain ⟨cs, hcs⟩ : ∃ cs, cs = ccells (l.map ntC) := ⟨_, rfl⟩
      rw [← hcs] at ho2
      have HCS := hide hcs
      clear ho hkn hcs
      go_wp2
      go_loopw [0] (fun lv wr => ∃ (m : Nat) (ys : List Value), n ≤ m ∧ m ≤ cap ∧ lv = .slice (some ⟨g, 0, none⟩) m cap ∧ wr.ownsRow base 32 3 (.slice (some ⟨g, 0, none⟩) m cap) m (cs ++ ys) ∧ w.grownBy wr (some g)) (fun lv _ => cap - lenOf lv)
      case atStart => exact ⟨n, [], Nat.le_refl _, hnc, rfl, by simpa using ho2, hg⟩
      case round =>
        obtain ⟨m, ys, hm1, hm2, rfl, ho3, hg3⟩ := hrel
        clear ho2 hg
        by_cases hlt2 : m < cap
        · have hlt3 : (m : Int) < cap := by omega
          go_wp2_with (at_builtin; refine wpList_append_fits _ rfl (.tmp 26) (.tmp 28) 22 rfl base 32 i0 3 Try.underlying22 hi hz1 g m cap _ rfl (ho3.alloc _) ⟨wr.heap.size, 0, none⟩ 1 1 overK rfl rfl (cells_three_new _ _ _ _ _) (by intro u hu; simp [overK] at hu; rcases hu with rfl | rfl | rfl <;> rfl) (by omega) ?_)
          intro w2 ho4 hg4
          have hg5 := grown_trans hg3 (grown_trans (World.grownBy_alloc _ _ _) hg4)
          clear ho3 hg3 hg4
          go_wp2
          go_roundw
          case rel => exact ⟨m + 1, ys ++ overK, by omega, by omega, rfl, by simpa using ho4, hg5⟩
          case measure => simp [lenOf]; omega
        · go_wp2
          go_end0
          refine ⟨rfl, ?_, hg3⟩
          have := own_frontO ho3 n hm1
          rw [List.take_left' (by rw [HCS.out, ccells_len, List.length_map, hn]), HCS.out] at this
          exact this

theorem overC_any (v : Value) (l : List Cw) (base : Nat) (w : World) (h : OwnR 32 base w v l) :
    Calls Try.prog 52 #[v] w fun e w' => e = .returned (.tuple #[]) ∧ OwnR 32 base w' v (l.map ntC) ∧ w.grownBy w' v.ownBlock := by
  rcases h.2 with ⟨hv, hn⟩ | ⟨g, cap, cur, hv, h1, hh, hc, hm, hs, ht⟩
  · have hz : l = [] := List.eq_nil_of_length_eq_zero hn
    subst hz hv
    go_enter Try.func52, Try.ntmps52
    go_wp2
    refine wp_loop_rounds 1 ?_
    rw [rounds_succ]
    go_wp2
    refine wp_loop_rounds 1 ?_
    rw [rounds_succ]
    go_wp2
    go_end0
    exact ⟨rfl, OwnR.nil _ _ _, World.grownBy.refl _ _⟩
  · subst hv
    refine (overC_full g l.length cap base l w rfl h hm hc).mono ?_
    rintro e w' ⟨rfl, ho, hg⟩
    exact ⟨rfl, by unfold OwnR; rw [List.length_map]; exact ho, hg⟩

theorem apartO_none (ao : Option Addr) (cap : Nat) (w : World) : Calls Try.prog 53 #[.slice ao 0 cap] w fun E w' => E = .returned (.bool true) ∧ Below w.heap.size w w' := by
  obtain ⟨i0, hi, hz0, hz1, hz2⟩ := info_parts Try.info30
  go_enter Try.func53, Try.ntmps53
  go_wp2_with (at_make; refine wpList_make_full _ rfl _ _ 78 rfl w.heap.size 30 i0 (.slice none 0 0) 1 Try.underlying78 hi hz0 hz1 _ _ _ _ 0 rfl rfl (by omega) (by omega) ?b2 ?b3 (Nat.le_refl _) ?_)
  case b2 => rw [hz2]; omega
  case b3 => unfold maxLen; omega
  intro w0 hown0 hgrow0
  have bel0 : Below w.heap.size w w0 := (Below.refl _ _).grown hgrow0 (Nat.le_refl _) (by simp)
  clear hown0 hgrow0
  go_wp2
  refine wp_loop_rounds 1 ?_
  rw [rounds_succ]
  go_wp2
  refine wp_loop_rounds 1 ?_
  rw [rounds_succ]
  go_wp2
  refine wp_loop_rounds 1 ?_
  rw [rounds_succ]
  go_wp2
  go_ret
  exact ⟨rfl, bel0⟩

end Go.Proofs.Ytkpnkknolobioaa
