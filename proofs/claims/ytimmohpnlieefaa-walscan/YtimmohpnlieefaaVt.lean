/- Two lists of commits, apart. -/
import Derived.Test.YtimmohpnlieefaaYc
namespace Go.Proofs.Ytimmohpnlieefaa
open Go.RowKit
set_option linter.unusedVariables false

theorem apcApp {r s : List Cw} {N : Nat} (h1 : ApC r) (h2 : ApC s) (b1 : ∀ c ∈ r, ∀ b, c.v.ownBlock = some b → b < N) (b2 : ∀ c ∈ s, ∀ b, c.v.ownBlock = some b → N ≤ b) : ApC (r ++ s) := by
  intro i j c d hij hc hd
  have key : ∀ u v : Value, (∀ b d, u.ownBlock = some b → v.ownBlock = some d → b ≠ d) → u.ownBlock = none ∨ u.ownBlock ≠ v.ownBlock := by
    intro u v h
    cases hu : u.ownBlock with
    | none => exact .inl rfl
    | some b => exact .inr fun e => h b b hu e.symm rfl
  rw [List.getElem?_append] at hc hd
  by_cases hi : i < r.length <;> by_cases hj : j < r.length
  · rw [if_pos hi] at hc
    rw [if_pos hj] at hd
    exact h1 i j c d hij hc hd
  · rw [if_pos hi] at hc
    rw [if_neg hj] at hd
    refine key _ _ fun b e hb he => ?_
    have := b1 c (List.mem_of_getElem? hc) b hb
    have := b2 d (List.mem_of_getElem? hd) e he
    omega
  · rw [if_neg hi] at hc
    rw [if_pos hj] at hd
    refine key _ _ fun b e hb he => ?_
    have := b2 c (List.mem_of_getElem? hc) b hb
    have := b1 d (List.mem_of_getElem? hd) e he
    omega
  · rw [if_neg hi] at hc
    rw [if_neg hj] at hd
    exact h2 _ _ c d (by omega) hc hd

/-- A list of commits of the call's own, apart from one another. -/
structure OwC (base : Nat) (w : World) (v : Value) (r : List Cw) : Prop where
  c : OwnR 32 base w v r
  o : CopyR base w r
  i : ∀ c ∈ r, In64 c.e ∧ In64 c.n
  ap : ApC r
  len : r.length ≤ 1000
  ops : ∀ c ∈ r, c.l.length ≤ 1000
  fit : FitC r

theorem OwC.below {base : Nat} {w w' : World} {v : Value} {r : List Cw} (h : OwC base w v r) (hb : Below w.heap.size w w') : OwC base w' v r := ⟨h.c.below hb, h.o.below hb, h.i, h.ap, h.len, h.ops, h.fit⟩
theorem OwC.rebase {base base' : Nat} {w : World} {v : Value} {r : List Cw} (h : OwC base w v r) (hb : base' ≤ base) : OwC base' w v r := ⟨h.c.rebase hb, fun c hc => (h.o c hc).rebase hb, h.i, h.ap, h.len, h.ops, h.fit⟩
theorem OwC.is {base : Nat} {w : World} {v : Value} {r : List Cw} (h : OwC base w v r) : IsC w v r := ⟨h.c.row, fun c hc => ⟨(h.o c hc).is, h.i c hc⟩⟩

theorem listsC_pair {base s : Nat} {w : World} {v1 v2 : Value} {r1 r2 : List Cw} (h1 : OwC base w v1 r1) (h2 : OwC s w v2 r2) (hb : base ≤ s) (b1 : ∀ b, v1.ownBlock = some b → b < s) (b2 : ∀ c ∈ r1, ∀ b, c.v.ownBlock = some b → b < s) :
    ListsC 2 w.heap.size base (w.alloc (.cells #[v1, v2] 34)) (duo v1 v2) (duo r1 r2) := by
  have bel : Below w.heap.size w (w.alloc (.cells #[v1, v2] 34)) := (Below.refl _ _).alloc (Nat.le_refl _) _
  have h1' := h1.below bel
  have h2' := (h2.below bel).rebase hb
  have two : ∀ i, i < 2 → i = 0 ∨ i = 1 := by omega
  have lt2 : ∀ b, v2.ownBlock = some b → s ≤ b ∧ b < w.heap.size := World.ownsRow.lt h2.c
  have lt1 : ∀ b, v1.ownBlock = some b → base ≤ b ∧ b < w.heap.size := World.ownsRow.lt h1.c
  have key : ∀ u v : Value, (∀ b d, u.ownBlock = some b → v.ownBlock = some d → b ≠ d) → u.ownBlock = none ∨ u.ownBlock ≠ v.ownBlock := by
    intro u v h
    cases hu : u.ownBlock with
    | none => exact .inl rfl
    | some b => exact .inr fun e => h b b hu e.symm rfl
  refine ⟨fun i hi => ?_, fun i hi => ?_, fun i hi => ?_, fun i hi => ?_, fun i j hi hj hne => ?_, fun i hi => ?_, fun i hi => ?_, fun i hi => ?_, fun i hi => ?_, ?_⟩
  · rcases two i hi with rfl | rfl <;> simp [duo]
  · rcases two i hi with rfl | rfl
    · exact h1'.c
    · exact h2'.c
  · rcases two i hi with rfl | rfl
    · exact h1'.o
    · exact h2'.o
  · rcases two i hi with rfl | rfl
    · exact h1.i
    · exact h2.i
  · rcases two i hi with rfl | rfl <;> rcases two j hj with rfl | rfl <;> first | exact absurd rfl hne | skip
    all_goals
      refine key _ _ fun b d hb hd => ?_
      simp only [duo] at hb hd
    · have := b1 b hb; have := lt2 d hd; omega
    · have := lt2 b hb; have := b1 d hd; omega
  · intro e
    rcases two i hi with rfl | rfl
    · have := lt1 _ e; omega
    · have := lt2 _ e; omega
  · rcases two i hi with rfl | rfl
    · exact h1.len
    · exact h2.len
  · rcases two i hi with rfl | rfl
    · exact h1.ops
    · exact h2.ops
  · rcases two i hi with rfl | rfl
    · exact h1.fit
    · exact h2.fit
  · have e : (List.range 2).flatMap (duo r1 r2) = r1 ++ r2 := by simp [List.range_succ, duo]
    rw [e]
    exact apcApp h1.ap h2.ap b2 (fun c hc b e => (World.ownsRow.lt (h2.o c hc) b e).1)

/-- ApartCommits of two, seen from afar. -/
theorem apart_pair {base s : Nat} {w0 w : World} {v1 v2 : Value} {r1 r2 : List Cw} (h1 : OwC base w v1 r1) (h2 : OwC s w v2 r2) (hb : base ≤ s) (b1 : ∀ b, v1.ownBlock = some b → b < s) (b2 : ∀ c ∈ r1, ∀ b, c.v.ownBlock = some b → b < s) (h0 : w0.heap.size ≤ base) (hw : Below w0.heap.size w0 w) (hs : base ≤ w.heap.size) :
    Calls Try.prog 20 #[.slice (some ⟨w.heap.size, 0, none⟩) 2 2] (w.alloc (.cells #[v1, v2] 34)) fun E w' => E = .returned (.bool true) ∧ Below w0.heap.size w0 w' ∧ Out (fun g => base ≤ g) w w' := by
  have bel : Below w.heap.size w (w.alloc (.cells #[v1, v2] 34)) := (Below.refl _ _).alloc (Nat.le_refl _) _
  have L := listsC_pair h1 h2 hb b1 b2
  refine (apartC_keeps 2 w.heap.size 2 base _ _ _ (by omega) (by omega) (by simp; omega) L (by omega)).mono ?_
  rintro E A ⟨rfl, out⟩
  have hge : ∀ g, OwnsC 2 (duo v1 v2) (duo r1 r2) g → base ≤ g := by
    rintro g (⟨i, hi, e⟩ | ⟨i, hi, c, hc, e⟩)
    · exact (World.ownsRow.lt (L.own i hi) g e).1
    · exact (World.ownsRow.lt (L.ops i hi c hc) g e).1
  have o1 : Out (fun g => base ≤ g) w A := (Out.of_below (F := fun g => base ≤ g) bel).trans out fun g hg => .inl (hge g hg)
  exact ⟨rfl, hw.trans (o1.below (fun g hg => by omega) (by omega)), o1⟩

end Go.Proofs.Ytimmohpnlieefaa
