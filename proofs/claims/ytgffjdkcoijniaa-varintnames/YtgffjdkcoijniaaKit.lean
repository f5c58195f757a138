/- Small laws on rows of integers in memory, told once: what a slice reads as ('Is'), what a slice of the call's own holds ('Own'), an append between the two. No program. -/
import Derived.WalkKit
import Derived.WalkSpells
import Derived.WalkLawsBesides
import Derived.OpenShut
import Derived.Laws.AppendOwnNone
namespace Go.Proofs.Ytgffjdkcoijniaa
open Go.RowKit
set_option linter.unusedVariables false

theorem hide {p : Prop} (h : p) : Hid p := h

theorem ret_i64 {a b : Int} (h : a = b) : Ending.returned (.int .i64 a) = .returned (.int .i64 b) := by rw [h]

/-- A slice value that reads as the numbers zs, each fitting the kind k. -/
def Is (k : IntKind) (w : World) (v : Value) (zs : List Int) : Prop :=
  (∀ z ∈ zs, (Lit.int k z).wf = true) ∧
  ((v = .slice none 0 0 ∧ zs = []) ∨ ∃ ad cap, v = .slice (some ad) zs.length cap ∧ zs.length ≤ cap ∧ cap ≤ maxLen ∧ ∀ i, i < zs.length → w.cell? (ad.add i) = some (.int k (zs.getD i 0)))

/-- A slice value of the call's own (its block is from 'base' on, nothing else is in it) that holds the numbers zs. -/
def Own (k : IntKind) (e : TypeId) (base : Nat) (w : World) (v : Value) (zs : List Int) : Prop :=
  (∀ z ∈ zs, (Lit.int k z).wf = true) ∧ w.ownsRow base e 1 v zs.length (zs.map (Value.int k))

theorem Is.nil (k : IntKind) (w : World) : Is k w (.slice none 0 0) [] := ⟨by simp, .inl ⟨rfl, rfl⟩⟩
theorem Own.nil (k : IntKind) (e : TypeId) (base : Nat) (w : World) : Own k e base w (.slice none 0 0) [] := ⟨by simp, World.ownsRow_nil _ _ _ _⟩

theorem Is.below {k : IntKind} {w w' : World} {v : Value} {zs : List Int} (h : Is k w v zs) (hb : Below w.heap.size w w') : Is k w' v zs := by
  refine ⟨h.1, ?_⟩
  rcases h.2 with h | ⟨ad, cap, hv, h1, h2, hc⟩
  · exact .inl h
  · refine .inr ⟨ad, cap, hv, h1, h2, fun i hi => ?_⟩
    have := hc i hi
    rw [hb.cell (World.block_lt_of_cell? _ _ this)]
    exact this

theorem Own.below {k : IntKind} {e : TypeId} {base : Nat} {w w' : World} {v : Value} {zs : List Int} (h : Own k e base w v zs) (hb : Below w.heap.size w w') : Own k e base w' v zs := by
  refine ⟨h.1, h.2.1, ?_⟩
  rcases h.2.2 with h | ⟨g, cap, cur, hv, h1, hh, r⟩
  · exact .inl h
  · refine .inr ⟨g, cap, cur, hv, h1, ?_, r⟩
    rw [hb.block g (Array.getElem?_eq_some_iff.1 hh).1]
    exact hh

theorem Own.kept {k : IntKind} {e : TypeId} {base : Nat} {w w' : World} {v : Value} {zs : List Int} {row : Option Nat} (h : Own k e base w v zs) (hg : w.grownBy w' row) (hne : v.ownBlock = none ∨ v.ownBlock ≠ row) : Own k e base w' v zs :=
  ⟨h.1, h.2.kept hg hne⟩

theorem Own.rebase {k : IntKind} {e : TypeId} {base base' : Nat} {w : World} {v : Value} {zs : List Int} (h : Own k e base w v zs) (hb : base' ≤ base) : Own k e base' w v zs := by
  refine ⟨h.1, h.2.1, ?_⟩
  rcases h.2.2 with h | ⟨g, cap, cur, hv, h1, r⟩
  · exact .inl h
  · exact .inr ⟨g, cap, cur, hv, by omega, r⟩

theorem add_at (g off j : Nat) : (⟨g, off, none⟩ : Addr).add j = ⟨g, off + j, none⟩ := by unfold Addr.add; split <;> simp_all

theorem Own.is {k : IntKind} {e : TypeId} {base : Nat} {w : World} {v : Value} {zs : List Int} (h : Own k e base w v zs) : Is k w v zs := by
  refine ⟨h.1, ?_⟩
  rcases h.2.2 with ⟨hv, hn⟩ | ⟨g, cap, cur, hv, h1, hh, hc, hm, hs, ht⟩
  · exact .inl ⟨hv, List.eq_nil_of_length_eq_zero hn⟩
  · refine .inr ⟨⟨g, 0, none⟩, cap, hv, hc, hm, fun i hi => ?_⟩
    refine h.2.cells (by rw [hv]; rfl) i _ ?_
    simp [hi]

/-- One number, laid in a new block. -/
theorem Is.one (k : IntKind) (w : World) (z : Int) (e : TypeId) (hz : (Lit.int k z).wf = true) : Is k (w.alloc (.cells #[.int k z] e)) (.slice (some ⟨w.heap.size, 0, none⟩) 1 1) [z] := by
  refine ⟨by simpa using hz, .inr ⟨⟨w.heap.size, 0, none⟩, 1, rfl, by simp, by simp [maxLen], fun i hi => ?_⟩⟩
  have : i = 0 := by simpa using hi
  subst this
  simp [Addr.add]

/-- What an empty one is. -/
theorem Is.bare {k : IntKind} {w : World} {v : Value} (h : Is k w v []) : ∃ ao cap, v = .slice ao 0 cap := by
  rcases h.2 with ⟨h, _⟩ | ⟨ad, cap, hv, _⟩
  · exact ⟨none, 0, h⟩
  · exact ⟨some ad, cap, hv⟩

/-- What one with numbers is. -/
theorem Is.full {k : IntKind} {w : World} {v : Value} {zs : List Int} (h : Is k w v zs) (hne : 0 < zs.length) :
    ∃ b off cap, v = .slice (some ⟨b, off, none⟩) zs.length cap ∧ zs.length ≤ cap ∧ cap ≤ maxLen ∧ b < w.heap.size ∧ ∀ i, i < zs.length → w.cell? ⟨b, off + i, none⟩ = some (.int k (zs.getD i 0)) := by
  rcases h.2 with ⟨_, h⟩ | ⟨⟨b, off, spot⟩, cap, hv, h1, h2, hc⟩
  · subst h; simp at hne
  · have h0 := hc 0 hne
    have hspot : spot = none := by simpa [Addr.add] using World.cell?_spot h0
    subst hspot
    exact ⟨b, off, cap, hv, h1, h2, World.block_lt_of_cell? _ _ h0, fun i hi => by rw [← add_at]; exact hc i hi⟩

section
variable {P : Program} {w : World} {ops : Array Oper} {rest : List Oper} {o : Oper} {a : Act} {Q : Exit → Act → World → Prop}

/-- 'out = append(out, xs...)': out nil or the call's own, xs whatever slice of the same numbers. -/
theorem wpList_append_is (hgd : o.guard = none) (s x : Operand) (t : TypeId)
    (ho : o.op = .call { callee := .builtin .append, args := #[s, x], argTypes := #[t, t] })
    (k : IntKind) (e : TypeId) (base bytes : Nat) (ht : P.underlying t = some (.slice e)) (hinfo : (P.info? e).map (fun i => (i.zero, i.size, i.bytes)) = some (some (.int k 0), 1, bytes)) (hby : 0 < bytes)
    (v : Value) (zs : List Int) (hs : a.eval s = v) (hown : Own k e base w v zs) (vx : Value) (ys : List Int) (hx : a.eval x = vx) (his : Is k w vx ys)
    (hlen : (zs.length + ys.length) * bytes ≤ 140737488355328) (hbase : base ≤ w.heap.size)
    (h : ∀ v' w', Own k e base w' v' (zs ++ ys) → Below base w w' → w.grownBy w' v.ownBlock → wpList P ops Q rest (a.put o.dst v') w') : wpList P ops Q (o :: rest) a w := by
  obtain ⟨i, hi, hz, hsize, hb⟩ := info_parts hinfo
  have hn : zs.length + ys.length ≤ 140737488355328 := Nat.le_trans (Nat.le_mul_of_pos_right _ hby) hlen
  have hwf : ∀ z ∈ zs ++ ys, (Lit.int k z).wf = true := by
    intro z hz
    rcases List.mem_append.1 hz with hz | hz
    · exact hown.1 z hz
    · exact his.1 z hz
  rcases his.2 with ⟨hv, hy⟩ | ⟨ad, cap, hv, h1, h2, hc⟩
  · subst hy
    refine wpList_append_own_none hgd s x t ho base e i 1 ht hi v zs.length _ hs hown.2 (hx.trans hv) (h v w ⟨hwf, by simpa using hown.2⟩ (Below.refl _ _) (World.grownBy.refl _ _))
  · refine wpList_append_own w hgd s x t ho base e i (.int k 0) 1 bytes ht hi hz hsize hb rfl (by decide) v zs.length _ hs hown.2 ad ys.length cap (ys.map (Value.int k)) (hx.trans hv) (by simp) ?_ (ints_oneCell k ys) (by unfold maxLen; omega) hlen hbase ?_
    · intro j u hj
      rw [List.getElem?_map, Option.map_eq_some_iff] at hj
      obtain ⟨z, hz, rfl⟩ := hj
      obtain ⟨hj, hz⟩ := List.getElem?_eq_some_iff.1 hz
      rw [hc j hj, List.getD_eq_getElem?_getD, List.getElem?_eq_getElem hj, hz]
      rfl
    · intro v' w' ho' hg _
      refine h v' w' ⟨hwf, by simpa [List.map_append] using ho'⟩ ((Below.refl _ _).grown hg hbase fun k' hk => ?_) hg
      exact (hown.2.lt k' hk).1
end

end Go.Proofs.Ytgffjdkcoijniaa
