/- Rows of lists of bytes in memory. No program but its types. -/
import Derived.Test.YtdfbagnnieoonaaDoorFm
import Derived.Test.YtdfbagnnieoonaaDoorGa
import Derived.Test.YtdfbagnnieoonaaDoorBytes
namespace Go.Proofs.YtdfbagnnieoonaaDoor
open Go.RowKit
set_option linter.unusedVariables false

/-- A list of bytes of a row: its value, its bytes. -/
structure Bw where
  v : Value
  l : List Int

def bwc (a : Bw) : List Value := [a.v]
theorem bwc_len (a : Bw) : (bwc a).length = 1 := rfl

/-- A slice value that reads as the lists r. -/
def IsBB (w : World) (v : Value) (r : List Bw) : Prop := RowG bwc w v r ∧ ∀ a ∈ r, Is .u8 w a.v a.l

theorem IsBB.below {w w' : World} {v : Value} {r : List Bw} (h : IsBB w v r) (hb : Below w.heap.size w w') : IsBB w' v r := ⟨h.1.below hb, fun a ha => (h.2 a ha).below hb⟩

theorem IsBB.nil (w : World) : IsBB w (.slice none 0 0) [] := ⟨RowG.nil _ _, fun a ha => by simp at ha⟩

theorem IsBB.full {w : World} {v : Value} {r : List Bw} (h : IsBB w v r) (hne : 0 < r.length) :
    ∃ b off cap, v = .slice (some ⟨b, off, none⟩) r.length cap ∧ r.length ≤ cap ∧ cap ≤ maxLen ∧ b < w.heap.size ∧ ∀ i a, r[i]? = some a → w.cell? ⟨b, off + i, none⟩ = some a.v := by
  obtain ⟨b, off, cap, h1, h2, h3, h4, h5⟩ := h.1.full bwc_len (by decide) hne
  refine ⟨b, off, cap, h1, h2, h3, h4, fun i a ha => ?_⟩
  have := h5 i a ha 0 a.v rfl
  simpa using this

theorem bwc_one (l : List Bw) (h : ∀ a ∈ l, ∃ ao n c, a.v = .slice ao n c) : ∀ u ∈ gcells bwc l, u.oneCell' = true := by
  induction l with
  | nil => simp [gcells]
  | cons x l ih =>
    intro u hu
    rw [gcells, List.mem_append] at hu
    rcases hu with hu | hu
    · obtain ⟨a, n, c, hv⟩ := h x (by simp)
      simp [bwc] at hu
      rw [hu, hv]
      rfl
    · exact ih (fun y hy => h y (by simp [hy])) u hu

/-- Lists of the call's own, each in a block of its own, in a row of the call's own. -/
structure OwnB (base : Nat) (w : World) (v : Value) (r : List Bw) : Prop where
  row : OwnG bwc 1 31 base w v r
  own : ∀ a ∈ r, Own .u8 5 base w a.v a.l
  apart : r.Pairwise (fun a b => ∀ g, a.v.ownBlock = some g → b.v.ownBlock ≠ some g)

theorem OwnB.nil (base : Nat) (w : World) : OwnB base w (.slice none 0 0) [] := ⟨OwnG.nil _ _ _ _ _, fun a ha => by simp at ha, List.Pairwise.nil⟩

theorem OwnB.is {base : Nat} {w : World} {v : Value} {r : List Bw} (h : OwnB base w v r) : IsBB w v r := ⟨h.row.row, fun a ha => (h.own a ha).is⟩

theorem OwnB.below {base : Nat} {w w' : World} {v : Value} {r : List Bw} (h : OwnB base w v r) (hb : Below w.heap.size w w') : OwnB base w' v r :=
  ⟨h.row.agree fun b hb' => hb.block b (h.row.lt b hb').2, fun a ha => (h.own a ha).below hb, h.apart⟩

theorem bw_ne {w : World} {u v : Value} {b1 b2 : Nat} {r : List Bw} {zs : List Int} (h : Own .u8 5 b1 w u zs) (hr : OwnG bwc 1 31 b2 w v r) : u.ownBlock = none ∨ u.ownBlock ≠ v.ownBlock := by
  cases hu : u.ownBlock with
  | none => exact .inl rfl
  | some b =>
    refine .inr fun e' => ?_
    obtain ⟨c1, h1⟩ := h.type hu
    obtain ⟨c2, h2⟩ := hr.type e'.symm
    rw [h1] at h2
    simp at h2

/-- One list more, made since. -/
theorem OwnB.app {base : Nat} {w0 w w' : World} {v v' : Value} {r : List Bw} {a : Bw} (h : OwnB base w0 v r) (hb : Below w0.heap.size w0 w) (hbase : base ≤ w0.heap.size)
    (o1 : Own .u8 5 w0.heap.size w a.v a.l) (hr : OwnG bwc 1 31 base w' v' (r ++ [a])) (hg : w.grownBy w' v.ownBlock) : OwnB base w' v' (r ++ [a]) := by
  have k := h.below hb
  refine ⟨hr, fun c hc => ?_, List.pairwise_append.2 ⟨h.apart, List.pairwise_singleton _ _, fun c hc d hd => ?_⟩⟩
  · rcases List.mem_append.1 hc with hc | hc
    · exact (k.own c hc).kept hg (bw_ne (k.own c hc) k.row)
    · simp at hc
      subst hc
      exact (o1.rebase hbase).kept hg (bw_ne o1 k.row)
  · simp at hd
    subst hd
    intro g hg' e
    have h1 := ((h.own c hc).block g hg').2
    have h2 := (o1.block g e).1
    omega

end Go.Proofs.YtdfbagnnieoonaaDoor
