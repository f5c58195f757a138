/- Texts of one layer, one behind the other. -/
import Derived.WalkKit
import Derived.WalkSpells
import Derived.WalkLawsBesides
import Derived.OpenShut
import Derived.Laws.AppendOwnNone
import Derived.Test.YtdlogcdpapknaaaGreatDoorWide
import Derived.Deep.RegionLaw
import Derived.Laws.OwnMore
/- Small laws on rows of integers in memory, told once: what a slice reads as ('Is'), what a slice of the call's own holds ('Own'), an append between the two. No program. -/
namespace Go.Proofs.YtdlogcdpapknaaaGreatDoor
open Go.RowKit
set_option linter.unusedVariables false

theorem hide {p : Prop} (h : p) : Hid p := h

theorem ret_i64 {a b : Int} (h : a = b) : Ending.returned (.int .i64 a) = .returned (.int .i64 b) := by rw [h]

/-- A slice value that reads as the numbers zs, each fitting the kind k. -/
def Is (k : IntKind) (w : World) (v : Value) (zs : List Int) : Prop :=
  (∀ z ∈ zs, (Lit.int k z).wf = true) ∧
  ((v = .slice none 0 0 ∧ zs = []) ∨ ∃ ad cap, v = .slice (some ad) zs.length cap ∧ zs.length ≤ cap ∧ cap ≤ maxLen ∧ ∀ i, i < zs.length → w.cell? (ad.add i) = some (.int k (zs.getD i 0)))

/-- A slice value of the call's own (its block is from 'base' on, nothing else is in it) that holds the numbers zs. -/
def Own (k : IntKind) (e : TypeId) (base : Nat) (w : World) (v : Value) (zs : List Int) : Prop :=
  (∀ z ∈ zs, (Lit.int k z).wf = true) ∧ w.ownsRow base e 1 v zs.length (zs.map (Value.int k))

theorem Is.nil (k : IntKind) (w : World) : Is k w (.slice none 0 0) [] := ⟨by simp, .inl ⟨rfl, rfl⟩⟩
theorem Own.nil (k : IntKind) (e : TypeId) (base : Nat) (w : World) : Own k e base w (.slice none 0 0) [] := ⟨by simp, World.ownsRow_nil _ _ _ _⟩

theorem Is.below {k : IntKind} {w w' : World} {v : Value} {zs : List Int} (h : Is k w v zs) (hb : Below w.heap.size w w') : Is k w' v zs := by
  refine ⟨h.1, ?_⟩
  rcases h.2 with h | ⟨ad, cap, hv, h1, h2, hc⟩
  · exact .inl h
  · refine .inr ⟨ad, cap, hv, h1, h2, fun i hi => ?_⟩
    have := hc i hi
    rw [hb.cell (World.block_lt_of_cell? _ _ this)]
    exact this

theorem Own.below {k : IntKind} {e : TypeId} {base : Nat} {w w' : World} {v : Value} {zs : List Int} (h : Own k e base w v zs) (hb : Below w.heap.size w w') : Own k e base w' v zs := by
  refine ⟨h.1, h.2.1, ?_⟩
  rcases h.2.2 with h | ⟨g, cap, cur, hv, h1, hh, r⟩
  · exact .inl h
  · refine .inr ⟨g, cap, cur, hv, h1, ?_, r⟩
    rw [hb.block g (Array.getElem?_eq_some_iff.1 hh).1]
    exact hh

theorem Own.kept {k : IntKind} {e : TypeId} {base : Nat} {w w' : World} {v : Value} {zs : List Int} {row : Option Nat} (h : Own k e base w v zs) (hg : w.grownBy w' row) (hne : v.ownBlock = none ∨ v.ownBlock ≠ row) : Own k e base w' v zs :=
  ⟨h.1, h.2.kept hg hne⟩

theorem Own.rebase {k : IntKind} {e : TypeId} {base base' : Nat} {w : World} {v : Value} {zs : List Int} (h : Own k e base w v zs) (hb : base' ≤ base) : Own k e base' w v zs := by
  refine ⟨h.1, h.2.1, ?_⟩
  rcases h.2.2 with h | ⟨g, cap, cur, hv, h1, r⟩
  · exact .inl h
  · exact .inr ⟨g, cap, cur, hv, by omega, r⟩

theorem add_at (g off j : Nat) : (⟨g, off, none⟩ : Addr).add j = ⟨g, off + j, none⟩ := by unfold Addr.add; split <;> simp_all

theorem Own.is {k : IntKind} {e : TypeId} {base : Nat} {w : World} {v : Value} {zs : List Int} (h : Own k e base w v zs) : Is k w v zs := by
  refine ⟨h.1, ?_⟩
  rcases h.2.2 with ⟨hv, hn⟩ | ⟨g, cap, cur, hv, h1, hh, hc, hm, hs, ht⟩
  · exact .inl ⟨hv, List.eq_nil_of_length_eq_zero hn⟩
  · refine .inr ⟨⟨g, 0, none⟩, cap, hv, hc, hm, fun i hi => ?_⟩
    refine h.2.cells (by rw [hv]; rfl) i _ ?_
    simp [hi]

/-- One number, laid in a new block. -/
theorem Is.one (k : IntKind) (w : World) (z : Int) (e : TypeId) (hz : (Lit.int k z).wf = true) : Is k (w.alloc (.cells #[.int k z] e)) (.slice (some ⟨w.heap.size, 0, none⟩) 1 1) [z] := by
  refine ⟨by simpa using hz, .inr ⟨⟨w.heap.size, 0, none⟩, 1, rfl, by simp, by simp [maxLen], fun i hi => ?_⟩⟩
  have : i = 0 := by simpa using hi
  subst this
  simp [Addr.add]

/-- What an empty one is. -/
theorem Is.bare {k : IntKind} {w : World} {v : Value} (h : Is k w v []) : ∃ ao cap, v = .slice ao 0 cap := by
  rcases h.2 with ⟨h, _⟩ | ⟨ad, cap, hv, _⟩
  · exact ⟨none, 0, h⟩
  · exact ⟨some ad, cap, hv⟩

/-- What one with numbers is. -/
theorem Is.full {k : IntKind} {w : World} {v : Value} {zs : List Int} (h : Is k w v zs) (hne : 0 < zs.length) :
    ∃ b off cap, v = .slice (some ⟨b, off, none⟩) zs.length cap ∧ zs.length ≤ cap ∧ cap ≤ maxLen ∧ b < w.heap.size ∧ ∀ i, i < zs.length → w.cell? ⟨b, off + i, none⟩ = some (.int k (zs.getD i 0)) := by
  rcases h.2 with ⟨_, h⟩ | ⟨⟨b, off, spot⟩, cap, hv, h1, h2, hc⟩
  · subst h; simp at hne
  · have h0 := hc 0 hne
    have hspot : spot = none := by simpa [Addr.add] using World.cell?_spot h0
    subst hspot
    exact ⟨b, off, cap, hv, h1, h2, World.block_lt_of_cell? _ _ h0, fun i hi => by rw [← add_at]; exact hc i hi⟩

section
variable {P : Program} {w : World} {ops : Array Oper} {rest : List Oper} {o : Oper} {a : Act} {Q : Exit → Act → World → Prop}

/-- 'out = append(out, xs...)': out nil or the call's own, xs whatever slice of the same numbers. -/
theorem wpList_append_is (hgd : o.guard = none) (s x : Operand) (t : TypeId)
    (ho : o.op = .call { callee := .builtin .append, args := #[s, x], argTypes := #[t, t] })
    (k : IntKind) (e : TypeId) (base bytes : Nat) (ht : P.underlying t = some (.slice e)) (hinfo : (P.info? e).map (fun i => (i.zero, i.size, i.bytes)) = some (some (.int k 0), 1, bytes)) (hby : 0 < bytes ∧ bytes ≤ 65536)
    (v : Value) (zs : List Int) (hs : a.eval s = v) (hown : Own k e base w v zs) (vx : Value) (ys : List Int) (hx : a.eval x = vx) (his : Is k w vx ys)
    (hlen : (zs.length + ys.length) * bytes ≤ 150000000000000) (hbase : base ≤ w.heap.size)
    (h : ∀ v' w', Own k e base w' v' (zs ++ ys) → Below base w w' → w.grownBy w' v.ownBlock → wpList P ops Q rest (a.put o.dst v') w') : wpList P ops Q (o :: rest) a w := by
  obtain ⟨i, hi, hz, hsize, hb⟩ := info_parts hinfo
  have hn : zs.length + ys.length ≤ 150000000000000 := Nat.le_trans (Nat.le_mul_of_pos_right _ hby.1) hlen
  have hwf : ∀ z ∈ zs ++ ys, (Lit.int k z).wf = true := by
    intro z hz
    rcases List.mem_append.1 hz with hz | hz
    · exact hown.1 z hz
    · exact his.1 z hz
  rcases his.2 with ⟨hv, hy⟩ | ⟨ad, cap, hv, h1, h2, hc⟩
  · subst hy
    refine wpList_append_own_none hgd s x t ho base e i 1 ht hi v zs.length _ hs hown.2 (hx.trans hv) (h v w ⟨hwf, by simpa using hown.2⟩ (Below.refl _ _) (World.grownBy.refl _ _))
  · refine wpList_plain hgd fun _ hK => wp_append_wide w s x t ho base e i (.int k 0) 1 bytes ht hi hz hsize hb rfl (by decide) hby v zs.length _ hs hown.2 ad ys.length cap (ys.map (Value.int k)) (hx.trans hv) (by simp) ?_ (ints_oneCell k ys) hlen hbase ?_
    · intro j u hj
      rw [List.getElem?_map, Option.map_eq_some_iff] at hj
      obtain ⟨z, hz, rfl⟩ := hj
      obtain ⟨hj, hz⟩ := List.getElem?_eq_some_iff.1 hz
      rw [hc j hj, List.getD_eq_getElem?_getD, List.getElem?_eq_getElem hj, hz]
      rfl
    · intro v' w' ho' hg
      refine hK _ _ (h v' w' ⟨hwf, by simpa [List.map_append] using ho'⟩ ((Below.refl _ _).grown hg hbase fun k' hk => ?_) hg)
      exact (hown.2.lt k' hk).1

end

theorem Is.shape {k : IntKind} {w : World} {v : Value} {zs : List Int} (h : Is k w v zs) : ∃ ao cap, v = .slice ao zs.length cap ∧ zs.length ≤ cap ∧ cap ≤ maxLen := by
  rcases h.2 with ⟨hv, e⟩ | ⟨ad, cap, hv, h1, h2, _⟩
  · subst e; exact ⟨none, 0, hv, by simp, by simp⟩
  · exact ⟨some ad, cap, hv, h1, h2⟩

theorem Is.form {k : IntKind} {w : World} {v : Value} {zs : List Int} (h : Is k w v zs) : ∃ ao n c, v = .slice ao n c := by
  obtain ⟨ao, c, hv, _, _⟩ := h.shape
  exact ⟨ao, _, c, hv⟩

theorem take_next {xs ys : List Int} {k : Nat} (h : xs.take k = ys.take k) (ha : k < xs.length) (hb : k < ys.length) (he : xs[k] = ys[k]) : xs.take (k + 1) = ys.take (k + 1) := by
  rw [List.take_succ_eq_append_getElem ha, List.take_succ_eq_append_getElem hb, h, he]

theorem Is.byte {w : World} {v : Value} {zs : List Int} (h : Is .u8 w v zs) (i : Nat) : 0 ≤ zs.getD i 0 ∧ zs.getD i 0 < 256 := by
  have := range_u8 h.1 i
  simp at *
  omega

/-- Numbers laid in a new block. -/
theorem Is.lit (k : IntKind) (w : World) (cs : Array Value) (e : TypeId) (zs : List Int) (n : Nat) (hn : zs.length = n) (h : cs.toList = zs.map (Value.int k)) (hm : n ≤ maxLen) (hw : ∀ z ∈ zs, (Lit.int k z).wf = true) :
    Is k (w.alloc (.cells cs e)) (.slice (some ⟨w.heap.size, 0, none⟩) n n) zs := by
  subst hn
  have ho := World.ownsRow_lit (base := w.heap.size) (e := e) (size := 1) w cs zs.length (Nat.le_refl _) hm (by have := congrArg List.length h; simpa using this)
  rw [h] at ho
  exact (show Own k e w.heap.size _ _ zs from ⟨hw, ho⟩).is

/-- The front of a row of the call's own. -/
theorem Own.front {k : IntKind} {e : TypeId} {base : Nat} {w : World} {v : Value} {zs ys : List Int} (h : Own k e base w v (zs ++ ys)) (hy : 0 < ys.length) :
    ∃ b cap, v = .slice (some ⟨b, 0, none⟩) (zs.length + ys.length) cap ∧ zs.length + ys.length ≤ cap ∧ cap ≤ maxLen ∧ base ≤ b ∧ b < w.heap.size ∧ Is k w (.slice (some ⟨b, 0, none⟩) zs.length cap) zs := by
  have his := h.is
  rcases h.2.2 with ⟨_, hn⟩ | ⟨g, cap, cur, hv, h1, hh, hc, hm, hs, ht⟩
  · rw [List.length_append] at hn; omega
  · simp only [List.length_append] at hv hc
    refine ⟨g, cap, hv, hc, hm, h1, (Array.getElem?_eq_some_iff.1 hh).1, fun z hz => h.1 z (List.mem_append_left _ hz), .inr ⟨⟨g, 0, none⟩, cap, rfl, by omega, hm, fun i hi => ?_⟩⟩
    obtain ⟨b', off', cap', hv', _, _, _, hcell⟩ := his.full (by simp; omega)
    rw [hv] at hv'
    simp at hv'
    obtain ⟨⟨rfl, rfl⟩, rfl⟩ := hv'
    rw [add_at, hcell i (by simp; omega)]
    simp [List.getElem?_append, hi]

theorem Is.cut {k : IntKind} {w : World} {ad : Addr} {cap : Nat} {zs : List Int} (h : Is k w (.slice (some ad) zs.length cap) zs) (m : Nat) (hm : m ≤ zs.length) : Is k w (.slice (some ad) m cap) (zs.take m) := by
  have hl : (zs.take m).length = m := by rw [List.length_take]; omega
  refine ⟨fun z hz => h.1 z (List.mem_of_mem_take hz), ?_⟩
  rcases h.2 with ⟨hv, _⟩ | ⟨ad', cap', hv, h1, h2, hc⟩
  · cases hv
  · simp at hv
    obtain ⟨rfl, rfl⟩ := hv
    refine .inr ⟨ad, cap, by rw [hl], by omega, h2, fun i hi => ?_⟩
    rw [hl] at hi
    rw [hc i (by omega)]
    simp [List.getD, hi]

theorem Is.drewN {k : IntKind} {w : World} {v : Value} {zs : List Int} (h : Is k w v zs) (n : Nat) : Is k (w.drewN n) v zs := h.below (below_drewN (Below.refl _ _) n)

theorem Own.drewN {k : IntKind} {e : TypeId} {base : Nat} {w : World} {v : Value} {zs : List Int} (h : Own k e base w v zs) (n : Nat) : Own k e base (w.drewN n) v zs := h.below (below_drewN (Below.refl _ _) n)

theorem Is.sub {k : IntKind} {w : World} {b f n cap : Nat} {zs : List Int} (h : Is k w (.slice (some ⟨b, f, none⟩) n cap) zs) (a p : Nat) (hap : a ≤ p) (hp : p ≤ n) : Is k w (.slice (some ⟨b, f + a, none⟩) (p - a) (cap - a)) ((zs.drop a).take (p - a)) := by
  refine ⟨fun z hz => h.1 z (List.mem_of_mem_drop (List.mem_of_mem_take hz)), ?_⟩
  rcases h.2 with ⟨hv, _⟩ | ⟨ad', cap', hv, h1, h2, hc⟩
  · cases hv
  · simp only [Value.slice.injEq, Option.some.injEq] at hv
    obtain ⟨rfl, rfl, rfl⟩ := hv
    have hl : ((zs.drop a).take (p - a)).length = p - a := by rw [List.length_take, List.length_drop]; omega
    refine .inr ⟨⟨b, f + a, none⟩, cap - a, by rw [hl], by omega, by omega, fun i hi => ?_⟩
    rw [hl] at hi
    have := hc (a + i) (by omega)
    rw [add_at] at this ⊢
    rw [Nat.add_assoc, this]
    simp [List.getD, hi]

theorem apart_blocks {u v : Value} {s1 s2 s3 : Nat} (h1 : ∀ b, u.ownBlock = some b → s2 ≤ b ∧ b < s3) (h2 : ∀ b, v.ownBlock = some b → s1 ≤ b ∧ b < s2) : u.ownBlock = none ∨ u.ownBlock ≠ v.ownBlock := by
  cases hu : u.ownBlock with
  | none => exact .inl rfl
  | some b =>
    refine .inr fun e => ?_
    have g1 := h1 b hu
    have g2 := h2 b e.symm
    omega

theorem Own.block {k : IntKind} {e : TypeId} {base : Nat} {w : World} {v : Value} {zs : List Int} (h : Own k e base w v zs) : ∀ b, v.ownBlock = some b → base ≤ b ∧ b < w.heap.size := h.2.lt

theorem ownrow_below {w w' : World} {base e n : Nat} {v : Value} {xs : List Value} (h : w.ownsRow base e 1 v n xs) (hb : Below w.heap.size w w') : w'.ownsRow base e 1 v n xs := by
  refine ⟨h.1, ?_⟩
  rcases h.2 with h | ⟨g, cap, cur, hv, h1, hh, r⟩
  · exact .inl h
  · refine .inr ⟨g, cap, cur, hv, h1, ?_, r⟩
    rw [hb.block g (Array.getElem?_eq_some_iff.1 hh).1]
    exact hh

theorem grown_trans {w w1 w2 : World} {row : Option Nat} (h : w.grownBy w1 row) (k : w1.grownBy w2 row) : w.grownBy w2 row :=
  ⟨k.os.trans h.os, k.tape.trans h.tape, k.output.trans h.output, Nat.le_trans h.size k.size, fun i hi hne => (k.block i (Nat.lt_of_lt_of_le hi h.size) hne).trans (h.block i hi hne)⟩

theorem grown_drewN (w : World) (n : Nat) (row : Option Nat) : w.grownBy (w.drewN n) row := ⟨rfl, rfl, rfl, Nat.le_refl _, fun _ _ _ => rfl⟩

theorem own_front {w : World} {base e g n cap : Nat} {xs : List Value} (h : w.ownsRow base e 1 (.slice (some ⟨g, 0, none⟩) n cap) n xs) (m : Nat) (hm : m ≤ n) : w.ownsRow base e 1 (.slice (some ⟨g, 0, none⟩) m cap) m (xs.take m) := by
  obtain ⟨h1, h2⟩ := h
  refine ⟨by rw [List.length_take]; omega, ?_⟩
  rcases h2 with ⟨h', _⟩ | ⟨g', cap', cur, h', hb, hg, hnc, hcm, hcs, htake⟩
  · simp at h'
  · simp only [Value.slice.injEq, Option.some.injEq, Addr.mk.injEq, and_true, true_and] at h'
    obtain ⟨rfl, rfl⟩ := h'
    refine .inr ⟨g, cap, cur, rfl, hb, hg, by omega, hcm, hcs, ?_⟩
    rw [← htake, List.take_take]
    congr 1
    omega

/-- The length in a slot: a measure. -/
def lenOf : Value → Nat | .slice _ m _ => m | _ => 0

theorem getD_map (f : Int → Int) (l : List Int) (j : Nat) (h : j < l.length) : (l.map f).getD j 0 = f (l.getD j 0) := by
  simp [List.getD, h]

/-- A new block of cells. -/
theorem alloc_step (w : World) (cs : Array Value) (e : TypeId) : ∃ W, w.alloc (.cells cs e) = W ∧ W.heap.size = w.heap.size + 1 ∧ Below w.heap.size w W ∧ ∀ j u, cs[j]? = some u → W.cell? ⟨w.heap.size, j, none⟩ = some u := by
  refine ⟨_, rfl, by simp, (Below.refl _ _).alloc (Nat.le_refl _) _, fun j u h => ?_⟩
  rw [cell_of_row _ w.heap.size j cs e (0, 0) (heap_alloc_new w _)]
  simpa using h

/-- Three lists in a table. -/
def tri {α : Type} (a b c : α) : Nat → α | 0 => a | 1 => b | _ => c

/-- A new block of integers, the call's own. -/
theorem own_step (k : IntKind) (e : TypeId) (w : World) (cs : Array Value) (n : Nat) (zs : List Int) (hn : zs.length = n) (h : cs.toList = zs.map (Value.int k)) (hm : n ≤ maxLen) (hw : ∀ z ∈ zs, (Lit.int k z).wf = true) :
    ∃ W, w.alloc (.cells cs e) = W ∧ W.heap.size = w.heap.size + 1 ∧ Below w.heap.size w W ∧ Own k e w.heap.size W (.slice (some ⟨w.heap.size, 0, none⟩) n n) zs := by
  subst hn
  refine ⟨_, rfl, by simp, (Below.refl _ _).alloc (Nat.le_refl _) _, hw, ?_⟩
  have ho := World.ownsRow_lit (base := w.heap.size) (e := e) (size := 1) w cs zs.length (Nat.le_refl _) hm (by have := congrArg List.length h; simpa using this)
  rw [h] at ho
  exact ho

end Go.Proofs.YtdlogcdpapknaaaGreatDoor

/- A cut of a row of integers, told as one fact of the slice expression; its length. No program. -/
namespace Go.Proofs.YtdlogcdpapknaaaGreatDoor
open Go.RowKit
set_option linter.unusedVariables false

section
variable {P : Program} {k : IntKind} {w : World} {v : Value} {zs : List Int}

/-- 'v[l:p]'. -/
theorem Is.slice_lh (h : Is k w v zs) {t : TypeId} (ht : P.underlying t = some (.slice (P.elem t))) (hs : ∀ wx, (sizeOf (P.elem t)).run P wx = .ok 1 wx) (l p : Nat) (hl : l ≤ p) (hp : p ≤ zs.length) :
    ∃ vs, (∀ wx, (Instr.slice t v (some (.int .i64 l)) (some (.int .i64 p)) none).run P wx = .ok vs wx) ∧ Is k w vs ((zs.drop l).take (p - l)) := by
  have hlen : ((zs.drop l).take (p - l)).length = p - l := by rw [List.length_take, List.length_drop]; omega
  have hwf : ∀ z ∈ (zs.drop l).take (p - l), (Lit.int k z).wf = true := fun z hz => h.1 z (List.mem_of_mem_drop (List.mem_of_mem_take hz))
  rcases h.2 with ⟨hv, hz⟩ | ⟨ad, cap, hv, h1, h2, hc⟩
  · subst hz hv
    simp at hp
    subst hp
    obtain rfl : l = 0 := by omega
    refine ⟨.slice none 0 0, fun wx => ?_, Is.nil _ _⟩
    rw [run_slice_lh wx t none 0 0 ht .i64 .i64 _ _ (by omega) (by omega) (by omega), hs]
    rfl
  · subst hv
    by_cases hcl : cap = l
    · have hpl : p = l := by omega
      subst hpl
      refine ⟨.slice (some ad) 0 0, fun wx => ?_, hwf, .inr ⟨ad, 0, by rw [hlen]; simp, by rw [hlen]; simp, by simp, fun i hi => by rw [hlen] at hi; omega⟩⟩
      rw [run_slice_lh wx t (some ad) zs.length cap ht .i64 .i64 _ _ (by omega) (by omega) (by omega), hs]
      simp [Result.andThen, sliced, hcl]
    · refine ⟨.slice (some (ad.add l)) (p - l) (cap - l), fun wx => ?_, hwf, .inr ⟨ad.add l, cap - l, by rw [hlen], by rw [hlen]; omega, by omega, fun i hi => ?_⟩⟩
      · rw [run_slice_lh wx t (some ad) zs.length cap ht .i64 .i64 _ _ (by omega) (by omega) (by omega), hs]
        simp [Result.andThen, sliced, hcl]
      · rw [hlen] at hi
        have e : (ad.add l).add i = ad.add (l + i) := by
          unfold Addr.add
          by_cases h0 : l = 0 <;> by_cases h3 : i = 0 <;> simp [h0, h3, Nat.add_assoc]
        rw [e, hc (l + i) (by omega)]
        simp [List.getD, hi]

/-- 'v[l:]'. -/
theorem Is.slice_l (h : Is k w v zs) {t : TypeId} (ht : P.underlying t = some (.slice (P.elem t))) (hs : ∀ wx, (sizeOf (P.elem t)).run P wx = .ok 1 wx) (l : Nat) (hl : l ≤ zs.length) :
    ∃ vs, (∀ wx, (Instr.slice t v (some (.int .i64 l)) none none).run P wx = .ok vs wx) ∧ Is k w vs (zs.drop l) := by
  obtain ⟨vs, h1, h2⟩ := h.slice_lh ht hs l zs.length hl (Nat.le_refl _)
  rw [List.take_of_length_le (by simp)] at h2
  refine ⟨vs, fun wx => ?_, h2⟩
  obtain ⟨ao, cap, rfl, hcap, _⟩ := h.shape
  rw [← h1 wx, run_slice_lh wx t ao zs.length cap ht .i64 .i64 _ _ (by omega) (by omega) (by omega), run_slice_l wx t ao zs.length cap ht .i64 _ (by omega) (by omega)]
  simp

/-- 'len(v)'. -/
theorem Is.len_run (h : Is k w v zs) {t : TypeId} (ht : P.underlying t = some (.slice (P.elem t))) : ∀ ty wx, (Builtin.len_ #[t] ty #[v]).run P wx = .ok (goInt zs.length) wx := by
  intro ty wx
  obtain ⟨ao, cap, rfl, _, _⟩ := h.shape
  simp [Builtin.len_, run_underlying ht]

end

/-- 'append(out, xs...)' inside a region that draws its order: out nil or the call's own, xs whatever slice of the same numbers. -/
theorem step_append_is {P : Program} {ops : Array Oper} {o : Oper} {a : Act} {w : World} {K : Act → World → Prop} {Q : Exit → Act → World → Prop} {E : Prop} (hgd : o.guard = none) (s x : Operand) (t : TypeId)
    (ho : o.op = .call { callee := .builtin .append, args := #[s, x], argTypes := #[t, t] })
    (k : IntKind) (e : TypeId) (base bytes : Nat) (ht : P.underlying t = some (.slice e)) (hinfo : (P.info? e).map (fun i => (i.zero, i.size, i.bytes)) = some (some (.int k 0), 1, bytes)) (hby : 0 < bytes ∧ bytes ≤ 65536)
    (v : Value) (zs : List Int) (hs : a.eval s = v) (hown : Own k e base w v zs) (vx : Value) (ys : List Int) (hx : a.eval x = vx) (his : Is k w vx ys)
    (hlen : (zs.length + ys.length) * bytes ≤ 150000000000000) (hbase : base ≤ w.heap.size)
    (h : ∀ v' w', Own k e base w' v' (zs ++ ys) → Below base w w' → w.grownBy w' v.ownBlock → K (a.put o.dst v') w') :
    if Region.wanted o (yielded ops a.tmps) = true then Oper.wp P o a w K Q else E := by
  have hw : Region.wanted o (yielded ops a.tmps) = true := by simp [Region.wanted, hgd]
  rw [if_pos hw]
  obtain ⟨i, hi, hz, hsize, hb⟩ := info_parts hinfo
  have hn : zs.length + ys.length ≤ 150000000000000 := Nat.le_trans (Nat.le_mul_of_pos_right _ hby.1) hlen
  have hwf : ∀ z ∈ zs ++ ys, (Lit.int k z).wf = true := by
    intro z hz
    rcases List.mem_append.1 hz with hz | hz
    · exact hown.1 z hz
    · exact his.1 z hz
  rcases his.2 with ⟨hv, hy⟩ | ⟨ad, cap, hv, h1, h2, hc⟩
  · subst hy
    have hrun := run_append_owned_none (P := P) (w := w) base t o.type e i 1 ht hi v zs.length _ hown.2
    have hk := h v w ⟨hwf, by simpa using hown.2⟩ (Below.refl _ _) (World.grownBy.refl _ _)
    unfold Oper.wp
    simp [execOp, ho, resolve, invoke, builtin, hs, hx.trans hv, hrun, Result.andThen]
    exact hk
  · refine wp_append_wide w s x t ho base e i (.int k 0) 1 bytes ht hi hz hsize hb rfl (by decide) hby v zs.length _ hs hown.2 ad ys.length cap (ys.map (Value.int k)) (hx.trans hv) (by simp) ?_ (ints_oneCell k ys) hlen hbase ?_
    · intro j u hj
      rw [List.getElem?_map, Option.map_eq_some_iff] at hj
      obtain ⟨z, hz, rfl⟩ := hj
      obtain ⟨hj, hz⟩ := List.getElem?_eq_some_iff.1 hz
      rw [hc j hj, List.getD_eq_getElem?_getD, List.getElem?_eq_getElem hj, hz]
      rfl
    · intro v' w' ho' hg
      refine h v' w' ⟨hwf, by simpa [List.map_append] using ho'⟩ ((Below.refl _ _).grown hg hbase fun k' hk => ?_) hg
      exact (hown.2.lt k' hk).1

theorem grown_of_below {w w' : World} (h : Below w.heap.size w w') (row : Option Nat) : w.grownBy w' row := ⟨h.os, h.tape, h.output, h.size, fun i hi _ => h.block i hi⟩

theorem grown_setCell (w : World) (a : Addr) (u : Value) : w.grownBy (w.setCell a u) (some a.block) :=
  ⟨rfl, rfl, rfl, by simp [World.setCell], fun i _ hne => Below.heap_setCell _ _ _ _ (fun e => hne (by rw [e]))⟩

theorem set_cells {w : World} {g : Nat} {cs : Array Value} {t : TypeId} {fr : Nat × Nat} (hg : w.heap[g]? = some (.cells cs t fr)) (j : Nat) (u : Value) : (w.setCell ⟨g, j, none⟩ u).heap[g]? = some (.cells (cs.setIfInBounds j u) t fr) := by
  simp [World.setCell, Array.getElem?_modify, hg]

end Go.Proofs.YtdlogcdpapknaaaGreatDoor
