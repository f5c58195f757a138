/- Texts of one layer, one behind the other. -/
import Derived.WalkKit
import Derived.WalkSpells
import Derived.WalkLawsBesides
import Derived.OpenShut
import Derived.Laws.AppendOwnNone
import Derived.Test.YtabfihicdphjeaaW1
import Derived.Test.YtabfihicdphjeaaG1
import Derived.Laws.Bits64b
import Derived.Test.YtabfihicdphjeaaProg
import Derived.Deep.QuietTactic
import Derived.BigQuiet
import Derived.Deep.RegionWith
/- Small laws on rows of integers in memory, told once: what a slice reads as ('Is'), what a slice of the call's own holds ('Own'), an append between the two. No program. -/
namespace Go.Proofs.Ytabfihicdphjeaa
open Go.RowKit
set_option linter.unusedVariables false

theorem hide {p : Prop} (h : p) : Hid p := h

theorem ret_i64 {a b : Int} (h : a = b) : Ending.returned (.int .i64 a) = .returned (.int .i64 b) := by rw [h]

/-- A slice value that reads as the numbers zs, each fitting the kind k. -/
def Is (k : IntKind) (w : World) (v : Value) (zs : List Int) : Prop :=
  (∀ z ∈ zs, (Lit.int k z).wf = true) ∧
  ((v = .slice none 0 0 ∧ zs = []) ∨ ∃ ad cap, v = .slice (some ad) zs.length cap ∧ zs.length ≤ cap ∧ cap ≤ maxLen ∧ ∀ i, i < zs.length → w.cell? (ad.add i) = some (.int k (zs.getD i 0)))

/-- A slice value of the call's own (its block is from 'base' on, nothing else is in it) that holds the numbers zs. -/
def Own (k : IntKind) (e : TypeId) (base : Nat) (w : World) (v : Value) (zs : List Int) : Prop :=
  (∀ z ∈ zs, (Lit.int k z).wf = true) ∧ w.ownsRow base e 1 v zs.length (zs.map (Value.int k))

theorem Is.nil (k : IntKind) (w : World) : Is k w (.slice none 0 0) [] := ⟨by simp, .inl ⟨rfl, rfl⟩⟩
theorem Own.nil (k : IntKind) (e : TypeId) (base : Nat) (w : World) : Own k e base w (.slice none 0 0) [] := ⟨by simp, World.ownsRow_nil _ _ _ _⟩

theorem Is.below {k : IntKind} {w w' : World} {v : Value} {zs : List Int} (h : Is k w v zs) (hb : Below w.heap.size w w') : Is k w' v zs := by
  refine ⟨h.1, ?_⟩
  rcases h.2 with h | ⟨ad, cap, hv, h1, h2, hc⟩
  · exact .inl h
  · refine .inr ⟨ad, cap, hv, h1, h2, fun i hi => ?_⟩
    have := hc i hi
    rw [hb.cell (World.block_lt_of_cell? _ _ this)]
    exact this

theorem Own.below {k : IntKind} {e : TypeId} {base : Nat} {w w' : World} {v : Value} {zs : List Int} (h : Own k e base w v zs) (hb : Below w.heap.size w w') : Own k e base w' v zs := by
  refine ⟨h.1, h.2.1, ?_⟩
  rcases h.2.2 with h | ⟨g, cap, cur, hv, h1, hh, r⟩
  · exact .inl h
  · refine .inr ⟨g, cap, cur, hv, h1, ?_, r⟩
    rw [hb.block g (Array.getElem?_eq_some_iff.1 hh).1]
    exact hh

theorem Own.kept {k : IntKind} {e : TypeId} {base : Nat} {w w' : World} {v : Value} {zs : List Int} {row : Option Nat} (h : Own k e base w v zs) (hg : w.grownBy w' row) (hne : v.ownBlock = none ∨ v.ownBlock ≠ row) : Own k e base w' v zs :=
  ⟨h.1, h.2.kept hg hne⟩

theorem Own.rebase {k : IntKind} {e : TypeId} {base base' : Nat} {w : World} {v : Value} {zs : List Int} (h : Own k e base w v zs) (hb : base' ≤ base) : Own k e base' w v zs := by
  refine ⟨h.1, h.2.1, ?_⟩
  rcases h.2.2 with h | ⟨g, cap, cur, hv, h1, r⟩
  · exact .inl h
  · exact .inr ⟨g, cap, cur, hv, by omega, r⟩

theorem add_at (g off j : Nat) : (⟨g, off, none⟩ : Addr).add j = ⟨g, off + j, none⟩ := by unfold Addr.add; split <;> simp_all

theorem Own.is {k : IntKind} {e : TypeId} {base : Nat} {w : World} {v : Value} {zs : List Int} (h : Own k e base w v zs) : Is k w v zs := by
  refine ⟨h.1, ?_⟩
  rcases h.2.2 with ⟨hv, hn⟩ | ⟨g, cap, cur, hv, h1, hh, hc, hm, hs, ht⟩
  · exact .inl ⟨hv, List.eq_nil_of_length_eq_zero hn⟩
  · refine .inr ⟨⟨g, 0, none⟩, cap, hv, hc, hm, fun i hi => ?_⟩
    refine h.2.cells (by rw [hv]; rfl) i _ ?_
    simp [hi]

/-- One number, laid in a new block. -/
theorem Is.one (k : IntKind) (w : World) (z : Int) (e : TypeId) (hz : (Lit.int k z).wf = true) : Is k (w.alloc (.cells #[.int k z] e)) (.slice (some ⟨w.heap.size, 0, none⟩) 1 1) [z] := by
  refine ⟨by simpa using hz, .inr ⟨⟨w.heap.size, 0, none⟩, 1, rfl, by simp, by simp [maxLen], fun i hi => ?_⟩⟩
  have : i = 0 := by simpa using hi
  subst this
  simp [Addr.add]

/-- What an empty one is. -/
theorem Is.bare {k : IntKind} {w : World} {v : Value} (h : Is k w v []) : ∃ ao cap, v = .slice ao 0 cap := by
  rcases h.2 with ⟨h, _⟩ | ⟨ad, cap, hv, _⟩
  · exact ⟨none, 0, h⟩
  · exact ⟨some ad, cap, hv⟩

/-- What one with numbers is. -/
theorem Is.full {k : IntKind} {w : World} {v : Value} {zs : List Int} (h : Is k w v zs) (hne : 0 < zs.length) :
    ∃ b off cap, v = .slice (some ⟨b, off, none⟩) zs.length cap ∧ zs.length ≤ cap ∧ cap ≤ maxLen ∧ b < w.heap.size ∧ ∀ i, i < zs.length → w.cell? ⟨b, off + i, none⟩ = some (.int k (zs.getD i 0)) := by
  rcases h.2 with ⟨_, h⟩ | ⟨⟨b, off, spot⟩, cap, hv, h1, h2, hc⟩
  · subst h; simp at hne
  · have h0 := hc 0 hne
    have hspot : spot = none := by simpa [Addr.add] using World.cell?_spot h0
    subst hspot
    exact ⟨b, off, cap, hv, h1, h2, World.block_lt_of_cell? _ _ h0, fun i hi => by rw [← add_at]; exact hc i hi⟩

section
variable {P : Program} {w : World} {ops : Array Oper} {rest : List Oper} {o : Oper} {a : Act} {Q : Exit → Act → World → Prop}

/-- 'out = append(out, xs...)': out nil or the call's own, xs whatever slice of the same numbers. -/
theorem wpList_append_is (hgd : o.guard = none) (s x : Operand) (t : TypeId)
    (ho : o.op = .call { callee := .builtin .append, args := #[s, x], argTypes := #[t, t] })
    (k : IntKind) (e : TypeId) (base bytes : Nat) (ht : P.underlying t = some (.slice e)) (hinfo : (P.info? e).map (fun i => (i.zero, i.size, i.bytes)) = some (some (.int k 0), 1, bytes)) (hby : 0 < bytes ∧ bytes ≤ 65536)
    (v : Value) (zs : List Int) (hs : a.eval s = v) (hown : Own k e base w v zs) (vx : Value) (ys : List Int) (hx : a.eval x = vx) (his : Is k w vx ys)
    (hlen : (zs.length + ys.length) * bytes ≤ 150000000000000) (hbase : base ≤ w.heap.size)
    (h : ∀ v' w', Own k e base w' v' (zs ++ ys) → Below base w w' → w.grownBy w' v.ownBlock → wpList P ops Q rest (a.put o.dst v') w') : wpList P ops Q (o :: rest) a w := by
  obtain ⟨i, hi, hz, hsize, hb⟩ := info_parts hinfo
  have hn : zs.length + ys.length ≤ 150000000000000 := Nat.le_trans (Nat.le_mul_of_pos_right _ hby.1) hlen
  have hwf : ∀ z ∈ zs ++ ys, (Lit.int k z).wf = true := by
    intro z hz
    rcases List.mem_append.1 hz with hz | hz
    · exact hown.1 z hz
    · exact his.1 z hz
  rcases his.2 with ⟨hv, hy⟩ | ⟨ad, cap, hv, h1, h2, hc⟩
  · subst hy
    refine wpList_append_own_none hgd s x t ho base e i 1 ht hi v zs.length _ hs hown.2 (hx.trans hv) (h v w ⟨hwf, by simpa using hown.2⟩ (Below.refl _ _) (World.grownBy.refl _ _))
  · refine wpList_plain hgd fun _ hK => wp_append_wide w s x t ho base e i (.int k 0) 1 bytes ht hi hz hsize hb rfl (by decide) hby v zs.length _ hs hown.2 ad ys.length cap (ys.map (Value.int k)) (hx.trans hv) (by simp) ?_ (ints_oneCell k ys) hlen hbase ?_
    · intro j u hj
      rw [List.getElem?_map, Option.map_eq_some_iff] at hj
      obtain ⟨z, hz, rfl⟩ := hj
      obtain ⟨hj, hz⟩ := List.getElem?_eq_some_iff.1 hz
      rw [hc j hj, List.getD_eq_getElem?_getD, List.getElem?_eq_getElem hj, hz]
      rfl
    · intro v' w' ho' hg
      refine hK _ _ (h v' w' ⟨hwf, by simpa [List.map_append] using ho'⟩ ((Below.refl _ _).grown hg hbase fun k' hk => ?_) hg)
      exact (hown.2.lt k' hk).1

end

theorem Is.shape {k : IntKind} {w : World} {v : Value} {zs : List Int} (h : Is k w v zs) : ∃ ao cap, v = .slice ao zs.length cap ∧ zs.length ≤ cap ∧ cap ≤ maxLen := by
  rcases h.2 with ⟨hv, e⟩ | ⟨ad, cap, hv, h1, h2, _⟩
  · subst e; exact ⟨none, 0, hv, by simp, by simp⟩
  · exact ⟨some ad, cap, hv, h1, h2⟩

theorem Is.form {k : IntKind} {w : World} {v : Value} {zs : List Int} (h : Is k w v zs) : ∃ ao n c, v = .slice ao n c := by
  obtain ⟨ao, c, hv, _, _⟩ := h.shape
  exact ⟨ao, _, c, hv⟩

theorem take_next {xs ys : List Int} {k : Nat} (h : xs.take k = ys.take k) (ha : k < xs.length) (hb : k < ys.length) (he : xs[k] = ys[k]) : xs.take (k + 1) = ys.take (k + 1) := by
  rw [List.take_succ_eq_append_getElem ha, List.take_succ_eq_append_getElem hb, h, he]

theorem Is.byte {w : World} {v : Value} {zs : List Int} (h : Is .u8 w v zs) (i : Nat) : 0 ≤ zs.getD i 0 ∧ zs.getD i 0 < 256 := by
  have := range_u8 h.1 i
  simp at *
  omega

/-- Numbers laid in a new block. -/
theorem Is.lit (k : IntKind) (w : World) (cs : Array Value) (e : TypeId) (zs : List Int) (n : Nat) (hn : zs.length = n) (h : cs.toList = zs.map (Value.int k)) (hm : n ≤ maxLen) (hw : ∀ z ∈ zs, (Lit.int k z).wf = true) :
    Is k (w.alloc (.cells cs e)) (.slice (some ⟨w.heap.size, 0, none⟩) n n) zs := by
  subst hn
  have ho := World.ownsRow_lit (base := w.heap.size) (e := e) (size := 1) w cs zs.length (Nat.le_refl _) hm (by have := congrArg List.length h; simpa using this)
  rw [h] at ho
  exact (show Own k e w.heap.size _ _ zs from ⟨hw, ho⟩).is

/-- The front of a row of the call's own. -/
theorem Own.front {k : IntKind} {e : TypeId} {base : Nat} {w : World} {v : Value} {zs ys : List Int} (h : Own k e base w v (zs ++ ys)) (hy : 0 < ys.length) :
    ∃ b cap, v = .slice (some ⟨b, 0, none⟩) (zs.length + ys.length) cap ∧ zs.length + ys.length ≤ cap ∧ cap ≤ maxLen ∧ base ≤ b ∧ b < w.heap.size ∧ Is k w (.slice (some ⟨b, 0, none⟩) zs.length cap) zs := by
  have his := h.is
  rcases h.2.2 with ⟨_, hn⟩ | ⟨g, cap, cur, hv, h1, hh, hc, hm, hs, ht⟩
  · rw [List.length_append] at hn; omega
  · simp only [List.length_append] at hv hc
    refine ⟨g, cap, hv, hc, hm, h1, (Array.getElem?_eq_some_iff.1 hh).1, fun z hz => h.1 z (List.mem_append_left _ hz), .inr ⟨⟨g, 0, none⟩, cap, rfl, by omega, hm, fun i hi => ?_⟩⟩
    obtain ⟨b', off', cap', hv', _, _, _, hcell⟩ := his.full (by simp; omega)
    rw [hv] at hv'
    simp at hv'
    obtain ⟨⟨rfl, rfl⟩, rfl⟩ := hv'
    rw [add_at, hcell i (by simp; omega)]
    simp [List.getElem?_append, hi]

theorem Is.cut {k : IntKind} {w : World} {ad : Addr} {cap : Nat} {zs : List Int} (h : Is k w (.slice (some ad) zs.length cap) zs) (m : Nat) (hm : m ≤ zs.length) : Is k w (.slice (some ad) m cap) (zs.take m) := by
  have hl : (zs.take m).length = m := by rw [List.length_take]; omega
  refine ⟨fun z hz => h.1 z (List.mem_of_mem_take hz), ?_⟩
  rcases h.2 with ⟨hv, _⟩ | ⟨ad', cap', hv, h1, h2, hc⟩
  · cases hv
  · simp at hv
    obtain ⟨rfl, rfl⟩ := hv
    refine .inr ⟨ad, cap, by rw [hl], by omega, h2, fun i hi => ?_⟩
    rw [hl] at hi
    rw [hc i (by omega)]
    simp [List.getD, hi]

theorem Is.drewN {k : IntKind} {w : World} {v : Value} {zs : List Int} (h : Is k w v zs) (n : Nat) : Is k (w.drewN n) v zs := h.below (below_drewN (Below.refl _ _) n)

theorem Own.drewN {k : IntKind} {e : TypeId} {base : Nat} {w : World} {v : Value} {zs : List Int} (h : Own k e base w v zs) (n : Nat) : Own k e base (w.drewN n) v zs := h.below (below_drewN (Below.refl _ _) n)

theorem Is.sub {k : IntKind} {w : World} {b f n cap : Nat} {zs : List Int} (h : Is k w (.slice (some ⟨b, f, none⟩) n cap) zs) (a p : Nat) (hap : a ≤ p) (hp : p ≤ n) : Is k w (.slice (some ⟨b, f + a, none⟩) (p - a) (cap - a)) ((zs.drop a).take (p - a)) := by
  refine ⟨fun z hz => h.1 z (List.mem_of_mem_drop (List.mem_of_mem_take hz)), ?_⟩
  rcases h.2 with ⟨hv, _⟩ | ⟨ad', cap', hv, h1, h2, hc⟩
  · cases hv
  · simp only [Value.slice.injEq, Option.some.injEq] at hv
    obtain ⟨rfl, rfl, rfl⟩ := hv
    have hl : ((zs.drop a).take (p - a)).length = p - a := by rw [List.length_take, List.length_drop]; omega
    refine .inr ⟨⟨b, f + a, none⟩, cap - a, by rw [hl], by omega, by omega, fun i hi => ?_⟩
    rw [hl] at hi
    have := hc (a + i) (by omega)
    rw [add_at] at this ⊢
    rw [Nat.add_assoc, this]
    simp [List.getD, hi]

theorem apart_blocks {u v : Value} {s1 s2 s3 : Nat} (h1 : ∀ b, u.ownBlock = some b → s2 ≤ b ∧ b < s3) (h2 : ∀ b, v.ownBlock = some b → s1 ≤ b ∧ b < s2) : u.ownBlock = none ∨ u.ownBlock ≠ v.ownBlock := by
  cases hu : u.ownBlock with
  | none => exact .inl rfl
  | some b =>
    refine .inr fun e => ?_
    have g1 := h1 b hu
    have g2 := h2 b e.symm
    omega

theorem Own.block {k : IntKind} {e : TypeId} {base : Nat} {w : World} {v : Value} {zs : List Int} (h : Own k e base w v zs) : ∀ b, v.ownBlock = some b → base ≤ b ∧ b < w.heap.size := h.2.lt

theorem ownrow_below {w w' : World} {base e n : Nat} {v : Value} {xs : List Value} (h : w.ownsRow base e 1 v n xs) (hb : Below w.heap.size w w') : w'.ownsRow base e 1 v n xs := by
  refine ⟨h.1, ?_⟩
  rcases h.2 with h | ⟨g, cap, cur, hv, h1, hh, r⟩
  · exact .inl h
  · refine .inr ⟨g, cap, cur, hv, h1, ?_, r⟩
    rw [hb.block g (Array.getElem?_eq_some_iff.1 hh).1]
    exact hh

theorem grown_trans {w w1 w2 : World} {row : Option Nat} (h : w.grownBy w1 row) (k : w1.grownBy w2 row) : w.grownBy w2 row :=
  ⟨k.os.trans h.os, k.tape.trans h.tape, k.output.trans h.output, Nat.le_trans h.size k.size, fun i hi hne => (k.block i (Nat.lt_of_lt_of_le hi h.size) hne).trans (h.block i hi hne)⟩

theorem grown_drewN (w : World) (n : Nat) (row : Option Nat) : w.grownBy (w.drewN n) row := ⟨rfl, rfl, rfl, Nat.le_refl _, fun _ _ _ => rfl⟩

theorem own_front {w : World} {base e g n cap : Nat} {xs : List Value} (h : w.ownsRow base e 1 (.slice (some ⟨g, 0, none⟩) n cap) n xs) (m : Nat) (hm : m ≤ n) : w.ownsRow base e 1 (.slice (some ⟨g, 0, none⟩) m cap) m (xs.take m) := by
  obtain ⟨h1, h2⟩ := h
  refine ⟨by rw [List.length_take]; omega, ?_⟩
  rcases h2 with ⟨h', _⟩ | ⟨g', cap', cur, h', hb, hg, hnc, hcm, hcs, htake⟩
  · simp at h'
  · simp only [Value.slice.injEq, Option.some.injEq, Addr.mk.injEq, and_true, true_and] at h'
    obtain ⟨rfl, rfl⟩ := h'
    refine .inr ⟨g, cap, cur, rfl, hb, hg, by omega, hcm, hcs, ?_⟩
    rw [← htake, List.take_take]
    congr 1
    omega

/-- The length in a slot: a measure. -/
def lenOf : Value → Nat | .slice _ m _ => m | _ => 0

theorem getD_map (f : Int → Int) (l : List Int) (j : Nat) (h : j < l.length) : (l.map f).getD j 0 = f (l.getD j 0) := by
  simp [List.getD, h]

/-- A new block of cells. -/
theorem alloc_step (w : World) (cs : Array Value) (e : TypeId) : ∃ W, w.alloc (.cells cs e) = W ∧ W.heap.size = w.heap.size + 1 ∧ Below w.heap.size w W ∧ ∀ j u, cs[j]? = some u → W.cell? ⟨w.heap.size, j, none⟩ = some u := by
  refine ⟨_, rfl, by simp, (Below.refl _ _).alloc (Nat.le_refl _) _, fun j u h => ?_⟩
  rw [cell_of_row _ w.heap.size j cs e (0, 0) (heap_alloc_new w _)]
  simpa using h

/-- Three lists in a table. -/
def tri {α : Type} (a b c : α) : Nat → α | 0 => a | 1 => b | _ => c

/-- A new block of integers, the call's own. -/
theorem own_step (k : IntKind) (e : TypeId) (w : World) (cs : Array Value) (n : Nat) (zs : List Int) (hn : zs.length = n) (h : cs.toList = zs.map (Value.int k)) (hm : n ≤ maxLen) (hw : ∀ z ∈ zs, (Lit.int k z).wf = true) :
    ∃ W, w.alloc (.cells cs e) = W ∧ W.heap.size = w.heap.size + 1 ∧ Below w.heap.size w W ∧ Own k e w.heap.size W (.slice (some ⟨w.heap.size, 0, none⟩) n n) zs := by
  subst hn
  refine ⟨_, rfl, by simp, (Below.refl _ _).alloc (Nat.le_refl _) _, hw, ?_⟩
  have ho := World.ownsRow_lit (base := w.heap.size) (e := e) (size := 1) w cs zs.length (Nat.le_refl _) hm (by have := congrArg List.length h; simpa using this)
  rw [h] at ho
  exact ho

end Go.Proofs.Ytabfihicdphjeaa

/- Bits of small numbers: 'x & 127', 'x | 128', as plain arithmetic. No program. -/
namespace Go.Proofs.Ytabfihicdphjeaa
open Go.RowKit
set_option linter.unusedVariables false

theorem bits_and_u8_nat (a b : Nat) (ha : a < 256) (hb : b < 256) : bits .and .u8 (a : Int) (b : Int) = ((a &&& b : Nat) : Int) := by
  have hx : a &&& b < 2 ^ 8 := Nat.and_lt_two_pow _ (by omega)
  have h1 : (BitVec.ofInt 8 (a : Int)).toNat = a := by
    rw [BitVec.ofInt_natCast, BitVec.toNat_ofNat]; exact Nat.mod_eq_of_lt (by omega)
  have h2 : (BitVec.ofInt 8 (b : Int)).toNat = b := by
    rw [BitVec.ofInt_natCast, BitVec.toNat_ofNat]; exact Nat.mod_eq_of_lt (by omega)
  show IntKind.u8.wrap ((BitVec.ofInt 8 (a : Int) &&& BitVec.ofInt 8 (b : Int)).toNat : Int) = _
  rw [BitVec.toNat_and, h1, h2]
  simp [IntKind.wrap, IntKind.signed, IntKind.bits]
  omega

theorem bits_or_u8_nat (a b : Nat) (ha : a < 256) (hb : b < 256) : bits .or .u8 (a : Int) (b : Int) = ((a ||| b : Nat) : Int) := by
  have hx : a ||| b < 2 ^ 8 := Nat.or_lt_two_pow (by omega) (by omega)
  have h1 : (BitVec.ofInt 8 (a : Int)).toNat = a := by
    rw [BitVec.ofInt_natCast, BitVec.toNat_ofNat]; exact Nat.mod_eq_of_lt (by omega)
  have h2 : (BitVec.ofInt 8 (b : Int)).toNat = b := by
    rw [BitVec.ofInt_natCast, BitVec.toNat_ofNat]; exact Nat.mod_eq_of_lt (by omega)
  show IntKind.u8.wrap ((BitVec.ofInt 8 (a : Int) ||| BitVec.ofInt 8 (b : Int)).toNat : Int) = _
  rw [BitVec.toNat_or, h1, h2]
  simp [IntKind.wrap, IntKind.signed, IntKind.bits]
  omega

theorem and127_nat (a : Nat) : a &&& 127 = a % 128 := Nat.and_two_pow_sub_one_eq_mod a 7
theorem or128_nat (a : Nat) (h : a < 128) : a ||| 128 = a + 128 := by
  have := Nat.two_pow_add_eq_or_of_lt (i := 7) h 1
  rw [Nat.or_comm]
  simp at this
  omega

theorem and127_u64 (y : Int) (h0 : 0 ≤ y) (h1 : y < 18446744073709551616) : bits .and .u64 y 127 = y % 128 := by
  have h := bits_and_u64_nat y.toNat 127 (by omega) (by omega)
  rw [and127_nat, Int.toNat_of_nonneg h0] at h
  refine h.trans ?_
  omega

theorem and127_u8 (y : Int) (h0 : 0 ≤ y) (h1 : y < 256) : bits .and .u8 y 127 = y % 128 := by
  have h := bits_and_u8_nat y.toNat 127 (by omega) (by omega)
  rw [and127_nat, Int.toNat_of_nonneg h0] at h
  refine h.trans ?_
  omega

theorem or128_u8 (y : Int) (h0 : 0 ≤ y) (h1 : y < 128) : bits .or .u8 y 128 = y + 128 := by
  have h := bits_or_u8_nat y.toNat 128 (by omega) (by omega)
  rw [or128_nat _ (by omega), Int.toNat_of_nonneg h0] at h
  refine h.trans ?_
  omega

theorem pow7 (n : Nat) : (2 : Nat) ^ (7 * n) = 128 ^ n := by rw [Nat.pow_mul]

/-- 'acc | c << 7n' where acc takes 7n bits alone, and all fits. -/
theorem or_shift (acc n : Nat) (c : Int) (h0 : 0 ≤ c) (ha : acc < 128 ^ n) (hf : acc + c.toNat * 128 ^ n < 18446744073709551616) : bits .or .u64 (acc : Int) (IntKind.u64.wrap (c * 2 ^ (7 * n))) = ((acc + c.toNat * 128 ^ n : Nat) : Int) := by
  have e : c * 2 ^ (7 * n) = ((c.toNat * 128 ^ n : Nat) : Int) := by
    rw [← pow7]
    push_cast
    rw [Int.toNat_of_nonneg h0]
  have e2 : IntKind.u64.wrap (c * 2 ^ (7 * n)) = ((c.toNat * 128 ^ n : Nat) : Int) := by
    rw [e, IntKind.wrap_u64]
    omega
  rw [e2, bits_or_u64_nat _ _ (by omega) (by omega), Nat.or_comm]
  have h := Nat.two_pow_add_eq_or_of_lt (i := 7 * n) (b := acc) (by rw [pow7]; exact ha) c.toNat
  rw [pow7] at h
  rw [Nat.mul_comm c.toNat, ← h, Nat.add_comm]

/-- The same where the tenth group is cut to its one bit. -/
theorem or_shift_cut (acc n : Nat) (c : Int) (h0 : 0 ≤ c) (h2 : c < 256) (hn : n ≤ 9) (ha : acc < 128 ^ n) (hf : acc + Vm.dd n c * 128 ^ n < 18446744073709551616) : bits .or .u64 (acc : Int) (IntKind.u64.wrap (c % 128 * 2 ^ (7 * n))) = ((acc + Vm.dd n c * 128 ^ n : Nat) : Int) := by
  by_cases h8 : n ≤ 8
  · have e : Vm.dd n c = (c % 128).toNat := by unfold Vm.dd; rw [if_pos h8]
    rw [e] at hf ⊢
    exact or_shift acc n (c % 128) (by omega) ha hf
  · have h9 : n = 9 := by omega
    subst h9
    have e : Vm.dd 9 c = (c % 2).toNat := by unfold Vm.dd; rw [if_neg h8]
    rw [e] at hf ⊢
    have e2 : IntKind.u64.wrap (c % 128 * 2 ^ (7 * 9)) = IntKind.u64.wrap (c % 2 * 2 ^ (7 * 9)) := by
      rw [IntKind.wrap_u64, IntKind.wrap_u64]
      omega
    rw [e2]
    exact or_shift acc 9 (c % 2) (by omega) ha hf

theorem wrap_u64_small (z : Int) (h0 : 0 ≤ z) (h1 : z < 18446744073709551616) : IntKind.u64.wrap z = z := by
  rw [IntKind.wrap_u64]
  omega

theorem wf_u8 {z : Int} (h0 : 0 ≤ z) (h1 : z < 256) : (Lit.int .u8 z).wf = true := by
  simp [Lit.wf, IntKind.min, IntKind.max, IntKind.signed, IntKind.bits]; omega

theorem wf_u64 {z : Int} (h0 : 0 ≤ z) (h1 : z < 18446744073709551616) : (Lit.int .u64 z).wf = true := by
  simp [Lit.wf, IntKind.min, IntKind.max, IntKind.signed, IntKind.bits]; omega

theorem wf_i64 {z : Int} (h0 : -9223372036854775808 ≤ z) (h1 : z < 9223372036854775808) : (Lit.int .i64 z).wf = true := by
  simp [Lit.wf, IntKind.min, IntKind.max, IntKind.signed, IntKind.bits]; omega

theorem bytes_wf {zs : List Int} (h : zs.all (fun z => decide (0 ≤ z) && decide (z < 256)) = true) : ∀ z ∈ zs, (Lit.int .u8 z).wf = true := by
  intro z hz
  have := List.all_eq_true.1 h z hz
  simp at this
  exact wf_u8 this.1 this.2

end Go.Proofs.Ytabfihicdphjeaa

/- The contracts of the byte functions of the laws' kit. -/
namespace Go.Proofs.Ytabfihicdphjeaa
open Go.RowKit
set_option linter.unusedVariables false

theorem Try.info5 : (Try.prog.info? 5).map (fun i => (i.zero, i.size, i.bytes)) = some (some (.int .u8 0), 1, 1) := by kernel_rfl



theorem lent_step (bs : List Int) (k : Nat) (h : k < 3) : (bs ++ ([201, 202, 203] : List Int).take k) ++ [201 + (k : Int)] = bs ++ ([201, 202, 203] : List Int).take (k + 1) := by
  have : k = 0 ∨ k = 1 ∨ k = 2 := by omega
  rcases this with rfl | rfl | rfl <;> simp

end Go.Proofs.Ytabfihicdphjeaa

/- The contracts of varint Size, Append, Read, Small. -/
namespace Go.Proofs.Ytabfihicdphjeaa
open Go.RowKit
set_option linter.unusedVariables false

theorem size_done {y : Int} {n m : Nat} (h0 : 0 ≤ y) (hs : Vm.sz y.toNat + n = m + 1) (h : (y / 128 == 0) = true) : (n : Int) = m := by
  have h := beq_iff_eq.1 h
  have := Vm.sz_lo (x := y.toNat) (by omega)
  omega

theorem size_next {y : Int} {n m : Nat} (h0 : 0 ≤ y) (hs : Vm.sz y.toNat + n = m + 1) (hm : m ≤ 10) (h : (y / 128 == 0) = false) :
    Vm.sz (y / 128).toNat + (n + 1) = m + 1 ∧ n + 1 ≤ 10 ∧ (y / 128).toNat < y.toNat := by
  have h := beq_eq_false_iff_ne.1 h
  have := Vm.sz_hi (x := y.toNat) (by omega)
  have e : (y / 128).toNat = y.toNat / 128 := by omega
  have := Vm.sz_pos (y / 128).toNat
  rw [e] at *
  omega

set_option maxHeartbeats 400000 in
theorem size_any (x : Int) (w : World) (h0 : 0 ≤ x) (h1 : x < 18446744073709551616) :
    Calls Try.prog 82 #[.int .u64 x] w fun e w' => e = .returned (.int .i64 (Vm.sz x.toNat)) ∧ w = w' := by
  have hm := Vm.sz_le10 (x := x.toNat) (by omega)
  go_enter Try.func82, Try.ntmps82
  go_wp2
  go_loop [0, 3] (fun xx nn => ∃ (y : Int) (n : Nat), 0 ≤ y ∧ y < 18446744073709551616 ∧ 1 ≤ n ∧ n ≤ 10 ∧ xx = .int .u64 y ∧ nn = .int .i64 n ∧ Vm.sz y.toNat + n = Vm.sz x.toNat + 1) (fun xx _ => (intOf xx).toNat)
  case atStart => exact ⟨x, 1, h0, h1, by omega, by omega, rfl, rfl, rfl⟩
  case round =>
    obtain ⟨y, n, hy0, hy1, hn0, hn1, rfl, rfl, hs⟩ := hrel
    have HS : Hid (Vm.sz y.toNat + n = Vm.sz x.toNat + 1) := hs
    clear hs
    go_wp2
    · have hb : (y / 128 == 0) = true := by assumption
      go_ret
      exact ⟨ret_i64 (size_done hy0 HS.out hb), rfl⟩
    · have hb : (y / 128 == 0) = false := by assumption
      have R := size_next hy0 HS.out hm hb
      go_round
      case rel => exact ⟨y / 128, n + 1, by omega, by omega, by omega, R.2.1, rfl, by go_num, R.1⟩
      case measure => simp [intOf]; omega

set_option maxHeartbeats 400000 in
theorem app_any (vb : Value) (bs : List Int) (x : Int) (w : World) (hb : Is .u8 w vb bs) (hlb : bs.length ≤ 140737488351232) (h0 : 0 ≤ x) (h1 : x < 18446744073709551616) :
    Calls Try.prog 68 #[vb, .int .u64 x] w fun e w' => ∃ v, e = .returned v ∧ Own .u8 5 w.heap.size w' v (bs ++ Vm.enc x.toNat) ∧ Below w.heap.size w w' := by
  have hm := Vm.sz_le10 (x := x.toNat) (by omega)
  obtain ⟨ao, cap, hv⟩ : ∃ ao cap, vb = .slice ao bs.length cap := by
    rcases hb.2 with ⟨h, e⟩ | ⟨ad, cap, hv, _⟩
    · subst e; exact ⟨none, 0, h⟩
    · exact ⟨some ad, cap, hv⟩
  subst hv
  obtain ⟨i0, hi, hz0, hz1, hz2⟩ := info_parts Try.info5
  go_enter Try.func68, Try.ntmps68
  go_wp2_with (first | (go_at_call 82; refine (size_any x _ h0 h1).mono ?_; rintro e w' ⟨rfl, rfl⟩) | (at_make; refine wpList_make_own _ rfl _ _ 50 rfl w.heap.size 5 i0 (.int .u8 0) 1 Try.underlying50 hi hz0 hz1 _ _ _ (bs.length + Vm.sz x.toNat) rfl rfl (by omega) ?b2 ?b3 (Nat.le_refl _) ?_))
  case b2 => rw [hz2]; omega
  case b3 => unfold maxLen; omega
  intro w0 hown0 hgrow0
  have bel0 : Below w.heap.size w w0 := (Below.refl _ _).grown hgrow0 (Nat.le_refl _) (by simp)
  have own0 : Own .u8 5 w.heap.size w0 (.slice (some ⟨w.heap.size, 0, none⟩) 0 (bs.length + Vm.sz x.toNat)) [] := ⟨by simp, hown0⟩
  have is0 := hb.below bel0
  have sz0 := bel0.size
  clear hown0 hgrow0
  go_wp2_with (at_builtin; refine wpList_append_is rfl (.tmp 12) (.tmp 13) 50 rfl .u8 5 w.heap.size 1 Try.underlying50 Try.info5 (by decide) _ [] rfl own0 _ bs rfl is0 (by simp; omega) sz0 ?_)
  intro v1 w1 own1 bel1 _
  have bel := bel0.trans bel1
  clear own0 is0 bel0 bel1 sz0
  go_wp2
  go_loopw [1, 5] (fun xx vv wr => ∃ (y : Int) (zs : List Int), 0 ≤ y ∧ y < 18446744073709551616 ∧ xx = .int .u64 y ∧ zs.length ≤ 140737488351242 ∧ Own .u8 5 w.heap.size wr vv zs ∧ zs ++ Vm.enc y.toNat = bs ++ Vm.enc x.toNat ∧ Below w.heap.size w wr) (fun xx _ _ => (intOf xx).toNat)
  case atStart => exact ⟨x, bs, h0, h1, rfl, by omega, own1, rfl, bel⟩
  case round =>
    obtain ⟨y, zs, hy0, hy1, rfl, hl, own, heq, belr⟩ := hrel
    have HE := hide heq
    clear heq own1 bel
    have szr := belr.size
    by_cases hy : y ≤ 127
    · have e1 : y % 256 = y := by omega
      have W := wf_u8 (z := y) hy0 (by omega)
      go_wp2_with (at_builtin; refine wpList_append_is rfl (.tmp 17) (.tmp 20) 50 rfl .u8 5 w.heap.size 1 Try.underlying50 Try.info5 (by decide) _ zs rfl (own.below ((Below.refl _ _).alloc (Nat.le_refl _) _)) _ [y] rfl (Is.one .u8 _ _ 5 W) (by simp; omega) (by simp; omega) ?_)
      intro v2 w2 own2 bel2 _
      go_wp2
      go_ret
      refine ⟨_, rfl, ?_, (belr.alloc szr _).trans bel2⟩
      rw [← HE.out, Vm.enc_lo (x := y.toNat) (by omega), Int.toNat_of_nonneg hy0]
      exact own2
    · have e1 := and127_u64 y hy0 hy1
      have e2 : y % 128 % 256 = y % 128 := by omega
      have e3 := or128_u8 (y % 128) (by omega) (by omega)
      have W := wf_u8 (z := y % 128 + 128) (by omega) (by omega)
      go_wp2_with (at_builtin; refine wpList_append_is rfl (.tmp 22) (.tmp 27) 50 rfl .u8 5 w.heap.size 1 Try.underlying50 Try.info5 (by decide) _ zs rfl (own.below ((Below.refl _ _).alloc (Nat.le_refl _) _)) _ [y % 128 + 128] rfl (Is.one .u8 _ _ 5 W) (by simp; omega) (by simp; omega) ?_)
      intro v2 w2 own2 bel2 _
      have HE2 : zs ++ [y % 128 + 128] ++ Vm.enc (y / 128).toNat = bs ++ Vm.enc x.toNat := by
        rw [← HE.out, Vm.enc_hi (x := y.toNat) (by omega)]
        have : (y / 128).toNat = y.toNat / 128 := by omega
        have : ((y.toNat % 128 + 128 : Nat) : Int) = y % 128 + 128 := by omega
        simp_all
      have HL : zs.length + 1 ≤ 140737488351242 := by
        have := congrArg List.length HE2
        have := Vm.sz_pos (y / 128).toNat
        simp at *
        unfold Vm.sz at *
        omega
      have HE3 := hide HE2
      have b3 := (belr.alloc szr _).trans bel2
      clear HE2 own e1 e2 e3
      go_wp2
      go_roundw
      case rel => exact ⟨y / 128, zs ++ [y % 128 + 128], by omega, by omega, rfl, by simp; omega, own2, HE3.out, b3⟩
      case measure => simp [intOf]; omega

theorem ret3 {x n e x' n' e' : Int} (h : x = x' ∧ n = n' ∧ e = e') : Ending.returned (.tuple #[.int .u64 x', .int .i64 n', .int .i64 e']) = .returned (.tuple #[.int .u64 x, .int .i64 n, .int .i64 e]) := by
  obtain ⟨rfl, rfl, rfl⟩ := h; rfl

theorem good_ret {bs : List Int} {x n e : Int} (hR : Vm.Res bs x n e) {u k : Nat} (hu : u < 18446744073709551616) (hp : Vm.enc u <+: bs) (hs : Vm.sz u = k + 1) : x = (u : Int) ∧ n = (k : Int) + 1 ∧ e = 0 := by
  have := Vm.res_good hR hu hp
  omega

set_option maxHeartbeats 400000 in
theorem read_any (vb : Value) (bs : List Int) (x n e : Int) (w : World) (hb : Is .u8 w vb bs) (hl : bs.length ≤ 150000000000000) (hR : Vm.Res bs x n e) :
    Calls Try.prog 84 #[vb] w fun E w' => E = .returned (.tuple #[.int .u64 x, .int .i64 n, .int .i64 e]) ∧ w = w' := by
  by_cases hz : 0 < bs.length
  · have hbyte := fun i => hb.byte i
    have HBY := hide hbyte
    obtain ⟨b1, o1, c1, rfl, _, _, hB1, hc1⟩ := hb.full hz
    have HC := hide hc1
    clear hc1 hbyte hb
    go_enter Try.func84, Try.ntmps84
    go_wp2
    go_loop [2, 3] (fun xx nn => ∃ (acc : Nat) (k : Nat), k ≤ 9 ∧ k ≤ bs.length ∧ xx = .int .u64 acc ∧ nn = .int .i64 k ∧ Vm.Inv bs k acc) (fun _ nn => 10 - (intOf nn).toNat)
    case atStart => exact ⟨0, 0, by omega, by omega, rfl, rfl, Vm.inv_start bs⟩
    case round =>
      obtain ⟨acc, k, hk, hk2, rfl, rfl, hinv⟩ := hrel
      have HI := hide hinv
      clear hinv
      by_cases hlt : k < bs.length
      · have hq : ((k : Int) == (bs.length : Int)) = false := by simp; omega
        have g1 := HC.out k hlt
        have hlt' : (k : Int) < bs.length := by omega
        have hc0 := HBY.out k
        generalize hcc : bs.getD k 0 = c at *
        have HCC := hide hcc
        have h70 := and127_u8 c hc0.1 hc0.2
        have h71 := wrap_u64_small (c % 128) (by omega) (by omega)
        clear hcc
        by_cases h9 : k = 9
        · have h9' : ((k : Int) == 9) = true := by simp [h9]
          have H9 := hide h9
          have HI9 : Hid (Vm.Inv bs 9 acc) := by have := HI.out; rw [h9] at this; exact this
          have HC9 : Hid (bs.getD 9 0 = c) := by have := HCC.out; rw [h9] at this; exact this
          clear h9
          by_cases hc1 : 1 < c
          · go_wp2
            go_ret3
            exact ⟨ret3 (Vm.res_bad hR (Vm.inv_wide HI9.out (by rw [← H9.out]; exact hlt) HC9.out hc1 hc0.2)), rfl⟩
          · have hfit : acc + (c % 128).toNat * 128 ^ k < 18446744073709551616 := by rw [H9.out]; exact Vm.inv_fits9 HI9.out hc0.1 (by omega)
            have e1 := or_shift acc k (c % 128) (by omega) HI.out.1 hfit
            generalize hna : acc + (c % 128).toNat * 128 ^ k = na at *
            have HNA := hide hna
            clear hna
            have hk1 : 1 ≤ k := by have := H9.out; omega
            have hk1' : 1 < (k : Int) + 1 := by omega
            by_cases hcz : c = 0
            · have hcz' : (c == 0) = true := by simp [hcz]
              have HZ := hide hcz
              clear hcz
              go_wp2
              go_ret3
              exact ⟨ret3 (Vm.res_bad hR (Vm.inv_zero HI.out hlt (HCC.out.trans HZ.out) hk1)), rfl⟩
            · have hcz' : (c == 0) = false := by simp [hcz]
              have G := hide (Vm.inv_end HI.out hlt HCC.out hc0.1 (by omega) (.inl (by omega)))
              go_wp2
              go_ret3
              have G := G.out
              rw [HNA.out] at G
              exact ⟨ret3 (good_ret hR hfit G.1 G.2), rfl⟩
        · have h9' : ((k : Int) == 9) = false := by simp; omega
          have hfit := Vm.inv_fits HI.out (c := c) (by omega) hc0.1
          have e1 := or_shift acc k (c % 128) (by omega) HI.out.1 hfit
          generalize hna : acc + (c % 128).toNat * 128 ^ k = na at *
          have HNA := hide hna
          clear hna
          by_cases h128 : c ≤ 127
          · by_cases hk1 : 1 ≤ k
            · have hk1' : 1 < (k : Int) + 1 := by omega
              by_cases hcz : c = 0
              · have hcz' : (c == 0) = true := by simp [hcz]
                have HZ := hide hcz
                clear hcz
                go_wp2
                go_ret3
                exact ⟨ret3 (Vm.res_bad hR (Vm.inv_zero HI.out hlt (HCC.out.trans HZ.out) hk1)), rfl⟩
              · have hcz' : (c == 0) = false := by simp [hcz]
                have G := hide (Vm.inv_end HI.out hlt HCC.out hc0.1 (by omega) (.inl (by omega)))
                go_wp2
                go_ret3
                have G := G.out
                rw [HNA.out] at G
                exact ⟨ret3 (good_ret hR hfit G.1 G.2), rfl⟩
            · have hk1' : ¬ 1 < (k : Int) + 1 := by omega
              have G := hide (Vm.inv_end HI.out hlt HCC.out hc0.1 (by omega) (.inr (by omega)))
              go_wp2
              go_ret3
              have G := G.out
              rw [HNA.out] at G
              exact ⟨ret3 (good_ret hR hfit G.1 G.2), rfl⟩
          · go_wp2
            go_round
            case rel => exact ⟨na, k + 1, by omega, by omega, rfl, by go_num, by have := Vm.inv_step HI.out hlt HCC.out (by omega) hc0.2; rw [HNA.out] at this; exact this⟩
            case measure => simp [intOf]; omega
      · have hq : ((k : Int) == (bs.length : Int)) = true := by simp; omega
        go_wp2
        go_ret3
        exact ⟨ret3 (Vm.res_bad hR (Vm.inv_short HI.out (by omega))), rfl⟩
  · have hx : bs = [] := List.eq_nil_of_length_eq_zero (by omega)
    subst hx
    obtain ⟨a1, c1, rfl⟩ := hb.bare
    clear hb hl hz
    go_enter Try.func84, Try.ntmps84
    go_wp2
    refine wp_loop_rounds 1 ?_
    rw [rounds_succ]
    go_wp2
    go_ret3
    exact ⟨ret3 (Vm.res_bad hR (fun u _ => Vm.pre_nil u)), rfl⟩

/-- What Small comes to. -/
def SRes (bs : List Int) (most u i g : Int) : Prop :=
  (Vm.Res bs u i 0 ∧ 0 ≤ most ∧ u ≤ most ∧ g = 0) ∨ (u = 0 ∧ i = 0 ∧ g = 5 ∧ ∃ x n e, Vm.Res bs x n e ∧ (e = 5 ∨ (e = 0 ∧ (most < 0 ∨ (0 ≤ most ∧ most < x)))))

theorem sres_is (bs : List Int) (most : Int) : ∃ u i g, SRes bs most u i g := by
  obtain ⟨x, n, e, hR⟩ := Vm.res_is bs
  have hb := Vm.res_bounds hR
  by_cases h : e = 0 ∧ 0 ≤ most ∧ x ≤ most
  · obtain ⟨rfl, h1, h2⟩ := h
    exact ⟨x, n, 0, .inl ⟨hR, h1, h2, rfl⟩⟩
  · exact ⟨0, 0, 5, .inr ⟨rfl, rfl, rfl, x, n, e, hR, by omega⟩⟩

set_option maxHeartbeats 400000 in
theorem small_any (vb : Value) (bs : List Int) (most u i g : Int) (w : World) (hb : Is .u8 w vb bs) (hl : bs.length ≤ 150000000000000) (hm : most < 9223372036854775808) (hm' : -9223372036854775808 ≤ most) (hS : SRes bs most u i g) :
    Calls Try.prog 71 #[vb, .int .i64 most] w fun E w' => E = .returned (.tuple #[.int .i64 u, .int .i64 i, .int .i64 g]) ∧ w = w' := by
  rcases hS with ⟨hR, h0, h1, hg⟩ | ⟨hu, hi, hg, x, n, e, hR, hcase⟩
  · have hbd := Vm.res_bounds hR
    have hq : ((0 : Int) != 0) = false := by simp
    subst hg
    go_enter Try.func71, Try.ntmps71
    go_wp2_with (go_at_call 84; refine (read_any _ _ _ _ _ _ hb hl hR).mono ?_; rintro E w1 ⟨rfl, rfl⟩)
    go_ret3
    exact ⟨rfl, rfl⟩
  · have hbd := Vm.res_bounds hR
    subst hu hi hg
    rcases hcase with he | ⟨he, h | ⟨h, h'⟩⟩
    · subst he
      go_enter Try.func71, Try.ntmps71
      go_wp2_with (go_at_call 84; refine (read_any _ _ _ _ _ _ hb hl hR).mono ?_; rintro E w1 ⟨rfl, rfl⟩)
      go_ret3
      exact ⟨rfl, rfl⟩
    · subst he
      go_enter Try.func71, Try.ntmps71
      go_wp2_with (go_at_call 84; refine (read_any _ _ _ _ _ _ hb hl hR).mono ?_; rintro E w1 ⟨rfl, rfl⟩)
      go_ret3
      exact ⟨rfl, rfl⟩
    · subst he
      go_enter Try.func71, Try.ntmps71
      go_wp2_with (go_at_call 84; refine (read_any _ _ _ _ _ _ hb hl hR).mono ?_; rintro E w1 ⟨rfl, rfl⟩)
      go_ret3
      exact ⟨rfl, rfl⟩

end Go.Proofs.Ytabfihicdphjeaa
