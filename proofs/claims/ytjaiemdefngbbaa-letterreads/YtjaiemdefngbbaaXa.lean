/- A message in memory: eight cells. -/
import Derived.Test.YtjaiemdefngbbaaA3
namespace Go.Proofs.Ytjaiemdefngbbaa
open Go.RowKit
set_option linter.unusedVariables false

/-- A message in memory: kind, epoch, role, end, starts (the slice, what it reads as), from, prev, commits (likewise). -/
structure Mw where
  k : Int
  e : Int
  r : Int
  n : Int
  vs : Value
  ss : List Sm.S
  f : Int
  p : Int
  vc : Value
  cs : List Cw

/-- As a value. -/
def mv (m : Mw) : Value := .agg #[.int .i64 m.k, .int .i64 m.e, .int .u8 m.r, .int .i64 m.n, m.vs, .int .i64 m.f, .int .i64 m.p, m.vc]
/-- Its cells. -/
def mc (m : Mw) : Array Value := #[.int .i64 m.k, .int .i64 m.e, .int .u8 m.r, .int .i64 m.n, m.vs, .int .i64 m.f, .int .i64 m.p, m.vc]
/-- What it says. -/
def Mw.m (m : Mw) : Mm.Msg := ⟨m.k, m.e, m.r, m.n, m.ss, m.f, m.p, cvs m.cs⟩

/-- Nothing in it. -/
def mno : Mw := ⟨0, 0, 0, 0, .slice none 0 0, [], 0, 0, .slice none 0 0, []⟩

/-- Its lists read as they should. -/
structure IsM (w : World) (m : Mw) : Prop where
  s : RowS w m.vs m.ss
  c : IsC w m.vc m.cs

theorem IsC.below' {w w' : World} {v : Value} {r : List Cw} (h : IsC w v r) (hb : Below w.heap.size w w') : IsC w' v r := h.below hb

theorem IsM.below {w w' : World} {m : Mw} (h : IsM w m) (hb : Below w.heap.size w w') : IsM w' m := ⟨h.s.below hb, h.c.below hb⟩

theorem IsM.no (w : World) : IsM w mno := ⟨RowG.nil _ _, IsC.nil _⟩

/-- What any message is. -/
structure FitM (m : Mw) : Prop where
  k : In64 m.k
  e : In64 m.e
  r0 : 0 ≤ m.r
  r1 : m.r < 256
  n : In64 m.n
  f : In64 m.f
  p : In64 m.p
  ls : m.ss.length ≤ 140737488355328
  fc : FitC m.cs
  lc : m.cs.length ≤ 140737488355328

theorem FitM.no : FitM mno := ⟨by simp [In64, mno], by simp [In64, mno], by simp [mno], by simp [mno], by simp [In64, mno], by simp [In64, mno], by simp [In64, mno], by simp [mno], fun c hc => by simp [mno] at hc, by simp [mno]⟩

/-- Eight cells of a block. -/
structure Ei (w : World) (g : Nat) (a b c d e f h i : Value) : Prop where
  c0 : w.cell? ⟨g, 0, none⟩ = some a
  c1 : w.cell? ⟨g, 1, none⟩ = some b
  c2 : w.cell? ⟨g, 2, none⟩ = some c
  c3 : w.cell? ⟨g, 3, none⟩ = some d
  c4 : w.cell? ⟨g, 4, none⟩ = some e
  c5 : w.cell? ⟨g, 5, none⟩ = some f
  c6 : w.cell? ⟨g, 6, none⟩ = some h
  c7 : w.cell? ⟨g, 7, none⟩ = some i

theorem ei_of {w : World} {g : Nat} {t : TypeId} {fr : Nat × Nat} {a b c d e f h i : Value} (k : w.heap[g]? = some (.cells #[a, b, c, d, e, f, h, i] t fr)) : Ei w g a b c d e f h i :=
  ⟨blk_cell k 0 rfl, blk_cell k 1 rfl, blk_cell k 2 rfl, blk_cell k 3 rfl, blk_cell k 4 rfl, blk_cell k 5 rfl, blk_cell k 6 rfl, blk_cell k 7 rfl⟩

/-- Eight cells of a block are written. -/
theorem put8 {V : World} {R : Nat} {t : TypeId} {x0 x1 x2 x3 x4 x5 x6 x7 : Value} (hR : V.heap[R]? = some (.cells #[x0, x1, x2, x3, x4, x5, x6, x7] t (0, 0))) (a b c d e f h i : Value) :
    ∃ V', (((((((V.setCell ⟨R, 0, none⟩ a).setCell ⟨R, 1, none⟩ b).setCell ⟨R, 2, none⟩ c).setCell ⟨R, 3, none⟩ d).setCell ⟨R, 4, none⟩ e).setCell ⟨R, 5, none⟩ f).setCell ⟨R, 6, none⟩ h).setCell ⟨R, 7, none⟩ i = V' ∧ V'.heap[R]? = some (.cells #[a, b, c, d, e, f, h, i] t (0, 0)) ∧ V.grownBy V' (some R) ∧
      Ei V R x0 x1 x2 x3 x4 x5 x6 x7 ∧ (∀ j, V.frozen? ⟨R, j, none⟩ = false) ∧ Ei V' R a b c d e f h i := by
  have k0 : (V.setCell ⟨R, 0, none⟩ a).heap[R]? = some (.cells #[a, x1, x2, x3, x4, x5, x6, x7] t (0, 0)) := set_cells hR 0 a
  have k1 : ((V.setCell ⟨R, 0, none⟩ a).setCell ⟨R, 1, none⟩ b).heap[R]? = some (.cells #[a, b, x2, x3, x4, x5, x6, x7] t (0, 0)) := set_cells k0 1 b
  have k2 : (((V.setCell ⟨R, 0, none⟩ a).setCell ⟨R, 1, none⟩ b).setCell ⟨R, 2, none⟩ c).heap[R]? = some (.cells #[a, b, c, x3, x4, x5, x6, x7] t (0, 0)) := set_cells k1 2 c
  have k3 : ((((V.setCell ⟨R, 0, none⟩ a).setCell ⟨R, 1, none⟩ b).setCell ⟨R, 2, none⟩ c).setCell ⟨R, 3, none⟩ d).heap[R]? = some (.cells #[a, b, c, d, x4, x5, x6, x7] t (0, 0)) := set_cells k2 3 d
  have k4 : (((((V.setCell ⟨R, 0, none⟩ a).setCell ⟨R, 1, none⟩ b).setCell ⟨R, 2, none⟩ c).setCell ⟨R, 3, none⟩ d).setCell ⟨R, 4, none⟩ e).heap[R]? = some (.cells #[a, b, c, d, e, x5, x6, x7] t (0, 0)) := set_cells k3 4 e
  have k5 : ((((((V.setCell ⟨R, 0, none⟩ a).setCell ⟨R, 1, none⟩ b).setCell ⟨R, 2, none⟩ c).setCell ⟨R, 3, none⟩ d).setCell ⟨R, 4, none⟩ e).setCell ⟨R, 5, none⟩ f).heap[R]? = some (.cells #[a, b, c, d, e, f, x6, x7] t (0, 0)) := set_cells k4 5 f
  have k6 : (((((((V.setCell ⟨R, 0, none⟩ a).setCell ⟨R, 1, none⟩ b).setCell ⟨R, 2, none⟩ c).setCell ⟨R, 3, none⟩ d).setCell ⟨R, 4, none⟩ e).setCell ⟨R, 5, none⟩ f).setCell ⟨R, 6, none⟩ h).heap[R]? = some (.cells #[a, b, c, d, e, f, h, x7] t (0, 0)) := set_cells k5 6 h
  have k7 : ((((((((V.setCell ⟨R, 0, none⟩ a).setCell ⟨R, 1, none⟩ b).setCell ⟨R, 2, none⟩ c).setCell ⟨R, 3, none⟩ d).setCell ⟨R, 4, none⟩ e).setCell ⟨R, 5, none⟩ f).setCell ⟨R, 6, none⟩ h).setCell ⟨R, 7, none⟩ i).heap[R]? = some (.cells #[a, b, c, d, e, f, h, i] t (0, 0)) := set_cells k6 7 i
  have k := k7
  refine ⟨_, rfl, k, ?_, ei_of hR, blk_froz hR, ei_of k⟩
  exact grown_trans (grown_trans (grown_trans (grown_trans (grown_trans (grown_trans (grown_trans (grown_setCell V ⟨R, 0, none⟩ a) (grown_setCell _ ⟨R, 1, none⟩ b)) (grown_setCell _ ⟨R, 2, none⟩ c)) (grown_setCell _ ⟨R, 3, none⟩ d)) (grown_setCell _ ⟨R, 4, none⟩ e)) (grown_setCell _ ⟨R, 5, none⟩ f)) (grown_setCell _ ⟨R, 6, none⟩ h)) (grown_setCell _ ⟨R, 7, none⟩ i)

/-- A block of eight cells, made and written. -/
theorem new8 (w : World) (t : TypeId) (x0 x1 x2 x3 x4 x5 x6 x7 a b c d e f h i : Value) :
    ∃ V, (((((((((w.alloc (.cells #[x0, x1, x2, x3, x4, x5, x6, x7] t)).setCell ⟨w.heap.size, 0, none⟩ a).setCell ⟨w.heap.size, 1, none⟩ b).setCell ⟨w.heap.size, 2, none⟩ c).setCell ⟨w.heap.size, 3, none⟩ d).setCell ⟨w.heap.size, 4, none⟩ e).setCell ⟨w.heap.size, 5, none⟩ f).setCell ⟨w.heap.size, 6, none⟩ h).setCell ⟨w.heap.size, 7, none⟩ i = V) ∧ w.alloc (.cells #[a, b, c, d, e, f, h, i] t) = V ∧ V.heap.size = w.heap.size + 1 ∧ Below w.heap.size w V ∧ V.heap[w.heap.size]? = some (.cells #[a, b, c, d, e, f, h, i] t (0, 0)) ∧ Ei V w.heap.size a b c d e f h i := by
  obtain ⟨V, h1, h2, h3, h4⟩ := blk_step w #[a, b, c, d, e, f, h, i] t
  refine ⟨V, ?_, h1, h2, h3, h4, ei_of h4⟩
  rw [← h1]
  simp [go_sem]

/-- The message m lies in the block g. -/
def MAt (w : World) (g : Nat) (m : Mw) : Prop := w.heap[g]? = some (.cells (mc m) 30 (0, 0))

theorem MAt.lt {w : World} {g : Nat} {m : Mw} (h : MAt w g m) : g < w.heap.size := blk_lt h
theorem MAt.below {w w' : World} {g : Nat} {m : Mw} (h : MAt w g m) (b : Below w.heap.size w w') : MAt w' g m := (b.block g h.lt).trans h
theorem MAt.under {w w' : World} {g B : Nat} {m : Mw} (h : MAt w g m) (b : Below B w w') (hg : g < B) : MAt w' g m := (b.block g hg).trans h
theorem MAt.ei {w : World} {g : Nat} {m : Mw} (h : MAt w g m) : Ei w g (.int .i64 m.k) (.int .i64 m.e) (.int .u8 m.r) (.int .i64 m.n) m.vs (.int .i64 m.f) (.int .i64 m.p) m.vc := ei_of h

/-- A message's block, made. -/
theorem newm (w : World) (m : Mw) :
    ∃ V, w.alloc (.cells #[.int .i64 m.k, .int .i64 m.e, .int .u8 m.r, .int .i64 m.n, m.vs, .int .i64 m.f, .int .i64 m.p, m.vc] 30) = V ∧ V.heap.size = w.heap.size + 1 ∧ Below w.heap.size w V ∧ MAt V w.heap.size m := by
  obtain ⟨V, h1, h2, h3, h4⟩ := blk_step w #[.int .i64 m.k, .int .i64 m.e, .int .u8 m.r, .int .i64 m.n, m.vs, .int .i64 m.f, .int .i64 m.p, m.vc] 30
  exact ⟨V, h1, h2, h3, h4⟩

/-- Whether two lists of commits are the same. -/
def sameV : List Cm.Cv → List Cm.Cv → Bool
  | [], [] => true
  | c :: r, d :: s => sameC c.e c.n c.l d.e d.n d.l && sameV r s
  | _, _ => false

theorem sameC_iff {e n e' n' : Int} {l l' : List Bm.Ov} : sameC e n l e' n' l' = true ↔ e = e' ∧ n = n' ∧ l = l' := by
  simp [sameC, Bm.sameL_iff]

theorem sameV_iff : ∀ {r s : List Cm.Cv}, sameV r s = true ↔ r = s
  | [], [] => by simp [sameV]
  | [], _ :: _ => by simp [sameV]
  | _ :: _, [] => by simp [sameV]
  | ⟨e, n, l⟩ :: r, ⟨e', n', l'⟩ :: s => by
    simp only [sameV, Bool.and_eq_true, sameC_iff, sameV_iff (r := r) (s := s)]
    simp [and_assoc]

theorem sameV_no {r s : List Cm.Cv} (h : r ≠ s) : sameV r s = false := by
  cases hs : sameV r s
  · rfl
  · exact absurd (sameV_iff.1 hs) h

theorem sameV_self (r : List Cm.Cv) : sameV r r = true := sameV_iff.2 rfl

/-- Whether two messages are the same. -/
def smM (a b : Mm.Msg) : Bool := (a.k == b.k) && ((a.e == b.e) && ((a.r == b.r) && ((a.n == b.n) && ((a.f == b.f) && ((a.p == b.p) && (decide (a.ss = b.ss) && sameV a.cs b.cs))))))

theorem smM_iff {a b : Mm.Msg} : smM a b = true ↔ a = b := by
  constructor
  · intro h
    simp only [smM, Bool.and_eq_true, beq_iff_eq, decide_eq_true_iff, sameV_iff] at h
    obtain ⟨h1, h2, h3, h4, h5, h6, h7, h8⟩ := h
    exact Mm.Msg.eq h1 h2 h3 h4 h7 h5 h6 h8
  · rintro rfl
    simp [smM, sameV_self]

theorem smM_self (a : Mm.Msg) : smM a a = true := smM_iff.2 rfl

theorem smM_no {a b : Mm.Msg} (h : a ≠ b) : smM a b = false := by
  cases hs : smM a b
  · rfl
  · exact absurd (smM_iff.1 hs) h

/-- A list's cells, where there are any. -/
theorem isC_cells {w : World} {v : Value} {r : List Cw} (h : IsC w v r) : 0 < r.length → ∃ b1 o1 c1, v = .slice (some ⟨b1, o1, none⟩) r.length c1 ∧ b1 < w.heap.size ∧ ∀ i c, r[i]? = some c → w.cell? ⟨b1, o1 + i * 3, none⟩ = some (.int .i64 c.e) ∧ w.cell? ⟨b1, o1 + i * 3 + 1, none⟩ = some (.int .i64 c.n) ∧ w.cell? ⟨b1, o1 + i * 3 + 2, none⟩ = some c.v := by
  intro hp
  obtain ⟨b1, o1, c1, hv, _, _, hB, hc⟩ := h.1.full hp
  exact ⟨b1, o1, c1, hv, hB, hc⟩

theorem cvs_get (r : List Cw) (k : Nat) : (cvs r)[k]? = (r[k]?).map Cw.c := by unfold cvs; rw [List.getElem?_map]

theorem cvs_length (r : List Cw) : (cvs r).length = r.length := by unfold cvs; rw [List.length_map]

end Go.Proofs.Ytjaiemdefngbbaa
