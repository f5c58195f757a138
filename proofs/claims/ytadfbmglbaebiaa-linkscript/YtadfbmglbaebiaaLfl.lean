/- What LinkFlight keeps: a link and a list of its letters beside it. -/
import Derived.Test.YtadfbmglbaebiaaLo
import Derived.Test.YtadfbmglbaebiaaGx
namespace Go.Proofs.Ytadfbmglbaebiaa
open Go.RowKit Go.Shelf
set_option linter.unusedVariables false

/-- A variable's block, made and stored. -/
theorem new_one (w : World) (t : TypeId) (x a : Value) : ∃ V, (w.alloc (.cells #[x] t)).setCell ⟨w.heap.size, 0, none⟩ a = V ∧ w.alloc (.cells #[a] t) = V ∧ V.heap.size = w.heap.size + 1 ∧ Below w.heap.size w V ∧ V.heap[w.heap.size]? = some (.cells #[a] t (0, 0)) ∧ V.cell? ⟨w.heap.size, 0, none⟩ = some a := by
  obtain ⟨V, h1, h2, h3, h4⟩ := blk_step w #[a] t
  refine ⟨V, ?_, h1, h2, h3, h4, blk_cell h4 0 rfl⟩
  rw [← h1]
  simp [go_sem]

/-- In a rising row a number stands at its own place. -/
theorem pl_rise {st : Lm.Ls} (h : Lm.Ok st) {i : Nat} {x : Lm.Lt} (hx : st.fl[i]? = some x) : Lm.pl st.fl x.n = i := by
  refine Lm.pl_eq _ _ i x (fun j y hj hy e => ?_) hx rfl
  obtain ⟨k1, k2⟩ := List.getElem?_eq_some_iff.1 hy
  obtain ⟨x1, x2⟩ := List.getElem?_eq_some_iff.1 hx
  have := List.pairwise_iff_getElem.1 h.up j i k1 x1 hj
  rw [k2, x2] at this
  omega

theorem del_rise {st : Lm.Ls} (h : Lm.Ok st) {i : Nat} {x : Lm.Lt} (hx : st.fl[i]? = some x) : Lm.del st x.n = ((x, 0), ⟨st.last, st.fl.eraseIdx i⟩) := by
  unfold Lm.del
  rw [pl_rise h hx, hx]

/-- The link, the variable's block B with a list of its letters, a block D beside them. -/
structure FF (base p B D : Nat) (w0 w : World) (st : Lm.Ls) (vf : Value) (fs : List Lw) (F : Nat → Prop) : Prop where
  lk : Lk false p F w st
  fge : ∀ g, F g → base ≤ g
  box : w.heap[B]? = some (.cells #[vf] 45 (0, 0))
  nB : ¬ F B
  row : OwnG letc 3 31 base w vf fs
  nR : ∀ b, vf.ownBlock = some b → ¬ F b
  nD : ¬ F D
  dfr : w.heap[D]? = some (.deferred (some []))
  bel : Below base w0 w
  hb : base = w0.heap.size
  bge : base ≤ B
  form : ∀ r ∈ fs, ∃ a n c, r.v = .slice a n c
  same : fs.map Lw.l = st.fl
  ok : Lm.Ok st

def FM (base p B D : Nat) (w0 w : World) (st : Lm.Ls) (vf : Value) (fs : List Lw) : Prop := ∃ F, FF base p B D w0 w st vf fs F

section
variable {base p B D : Nat} {w0 w w' : World} {st st' : Lm.Ls} {vf v' : Value} {fs : List Lw} {F : Nat → Prop}

theorem FF.size (h : FF base p B D w0 w st vf fs F) : base ≤ w.heap.size := by
  have := h.bel.size
  have := h.hb
  omega

/-- A letter is dropped. -/
theorem FF.drop (h : FF base p B D w0 w st vf fs F) {i : Nat} {x : Lm.Lt} (hx : st.fl[i]? = some x) :
    Calls Try.prog 13 #[.pointer (some ⟨p, 0, none⟩), .int .i64 x.n] w fun E w' => E = .returned (.int .i64 0) ∧ ∃ F', Lk false p F' w' ⟨st.last, st.fl.eraseIdx i⟩ ∧ (∀ g, F' g → base ≤ g) ∧ ¬ F' B ∧ ¬ F' D ∧ (∀ b, vf.ownBlock = some b → ¬ F' b) ∧ w'.heap[B]? = w.heap[B]? ∧ w'.heap[D]? = w.heap[D]? ∧ OwnG letc 3 31 base w' vf fs ∧ Below base w w' := by
  refine (drop_any p F w st x.n h.lk h.ok.len).mono ?_
  rw [del_rise h.ok hx]
  rintro E w' ⟨rfl, F', k1, k2, k3⟩
  have nn : ∀ g, g < w.heap.size → ¬ F g → ¬ F' g := fun g hg hn hF => by
    rcases k3 g hF with h1 | h1
    · exact hn h1
    · omega
  have lB := blk_lt h.box
  have lD := blk_lt h.dfr
  refine ⟨rfl, F', k1, fun g hg => ?_, nn B lB h.nB, nn D lD h.nD, fun b hb => nn b (h.row.lt b hb).2 (h.nR b hb), k2.block B lB h.nB, k2.block D lD h.nD, h.row.agree fun b hb => k2.block b (h.row.lt b hb).2 (h.nR b hb), k2.below h.fge h.size⟩
  rcases k3 g hg with h1 | h1
  · exact h.fge g h1
  · have := h.size; omega
end

/-- What a variable's slice has of letters. -/
def boxLen (B : Nat) (w : World) : Nat := match w.cell? ⟨B, 0, none⟩ with
  | some (.slice _ n _) => n
  | _ => 0

theorem boxLen_eq {B : Nat} {w : World} {a : Option Addr} {n c : Nat} {t : TypeId} (h : w.heap[B]? = some (.cells #[.slice a n c] t (0, 0))) : boxLen B w = n := by
  unfold boxLen
  rw [show w.cell? ⟨B, 0, none⟩ = some (.slice a n c) from blk_cell h 0 rfl]

end Go.Proofs.Ytadfbmglbaebiaa
