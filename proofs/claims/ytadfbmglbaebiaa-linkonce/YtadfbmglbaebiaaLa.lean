/- Letters and links in memory: the program's and the document's lie alike but for the order of their cells. -/
import Derived.Test.YtadfbmglbaebiaaGa
import Derived.Test.YtadfbmglbaebiaaLm
import Derived.Test.YtadfbmglbaebiaaCuth
import Derived.Test.YtadfbmglbaebiaaBy
namespace Go.Proofs.Ytadfbmglbaebiaa
open Go.RowKit
set_option linter.unusedVariables false

/-- A letter as it stands in memory. -/
structure Lw where
  n : Int
  to : Int
  v : Value
  bs : List Int

def Lw.l (r : Lw) : Lm.Lt := ⟨r.n, r.to, r.bs⟩
def letc (r : Lw) : List Value := [.int .i64 r.n, .int .i64 r.to, r.v]
theorem letc_len (r : Lw) : (letc r).length = 3 := rfl

theorem letc_one (rs : List Lw) (h : ∀ r ∈ rs, ∃ a n c, r.v = .slice a n c) : ∀ u ∈ gcells letc rs, u.oneCell' = true := by
  induction rs with
  | nil => simp [gcells]
  | cons r l ih =>
    intro u hu
    rw [gcells, List.mem_append] at hu
    rcases hu with hu | hu
    · obtain ⟨a, n, c, hv⟩ := h r (by simp)
      simp only [letc, List.mem_cons, List.not_mem_nil, or_false] at hu
      rcases hu with rfl | rfl | rfl
      · rfl
      · rfl
      · rw [hv]; rfl
    · exact ih (fun r hr => h r (by simp [hr])) u hu

theorem Byt.of_own2 {F : Nat → Prop} {base : Nat} {w : World} {v : Value} {zs : List Int} (h : Own .u8 5 base w v zs) (hF : ∀ b, v.ownBlock = some b → F b) : Byt F w v zs := by
  refine ⟨h.is, fun b hb => ⟨hF b hb, ?_⟩⟩
  obtain ⟨cs, hc⟩ := h.type hb
  exact ⟨_, _, hc⟩

/-- A link's three cells: the program's (false), the document's (true). -/
def lcells (d : Bool) (v : Value) (n : Nat) : Array Value := match d with
  | false => #[.bool true, .int .i64 n, v]
  | true => #[.bool true, v, .int .i64 n]

def ltyp (d : Bool) : TypeId := match d with
  | false => 53
  | true => 65

theorem ltyp_u (d : Bool) : ltyp d ≠ 5 := by cases d <;> decide
theorem ltyp_l (d : Bool) : ltyp d ≠ 31 := by cases d <;> decide

/-- A link in memory: its block p, its row of letters, their bytes; all in the blocks of F. -/
structure LkV (d : Bool) (p : Nat) (F : Nat → Prop) (w : World) (st : Lm.Ls) (v : Value) (rs : List Lw) : Prop where
  blk : w.heap[p]? = some (.cells (lcells d v st.last) (ltyp d) (0, 0))
  inp : F p
  row : OwnG letc 3 31 0 w v rs
  inr : ∀ b, v.ownBlock = some b → F b
  raw : ∀ r ∈ rs, Byt F w r.v r.bs
  fl : rs.map Lw.l = st.fl
  lt : ∀ g, F g → g < w.heap.size

def Lk (d : Bool) (p : Nat) (F : Nat → Prop) (w : World) (st : Lm.Ls) : Prop := ∃ v rs, LkV d p F w st v rs

/-- What a call does to a link: its new state; all else is as it was. -/
def LStep (d : Bool) (p : Nat) (F : Nat → Prop) (w w' : World) (st' : Lm.Ls) : Prop := ∃ F', Lk d p F' w' st' ∧ Out F w w' ∧ ∀ g, F' g → F g ∨ w.heap.size ≤ g

section
variable {d : Bool} {p : Nat} {F G : Nat → Prop} {w w' w1 w2 : World} {st st' : Lm.Ls} {v v' : Value} {rs rs' : List Lw}

theorem LkV.agree (h : LkV d p F w st v rs) (ha : ∀ g, F g → w'.heap[g]? = w.heap[g]?) (hs : w.heap.size ≤ w'.heap.size) : LkV d p F w' st v rs :=
  ⟨(ha p h.inp).trans h.blk, h.inp, h.row.agree fun b hb => ha b (h.inr b hb), h.inr, fun r hr => (h.raw r hr).agree fun b hb => ha b ((h.raw r hr).2 b hb).1, h.fl, fun g hg => Nat.lt_of_lt_of_le (h.lt g hg) hs⟩

theorem Lk.lt (h : Lk d p F w st) : ∀ g, F g → g < w.heap.size := by
  obtain ⟨v, rs, h⟩ := h
  exact h.lt

theorem Lk.inp (h : Lk d p F w st) : F p := by
  obtain ⟨v, rs, h⟩ := h
  exact h.inp

theorem Lk.agree (h : Lk d p F w st) (ha : ∀ g, F g → w'.heap[g]? = w.heap[g]?) (hs : w.heap.size ≤ w'.heap.size) : Lk d p F w' st := by
  obtain ⟨v, rs, h⟩ := h
  exact ⟨v, rs, h.agree ha hs⟩

theorem LkV.below (h : LkV d p F w st v rs) (hb : Below w.heap.size w w') : LkV d p F w' st v rs := h.agree (fun g hg => hb.block g (h.lt g hg)) hb.size
theorem Lk.below (h : Lk d p F w st) (hb : Below w.heap.size w w') : Lk d p F w' st := h.agree (fun g hg => hb.block g (h.lt g hg)) hb.size

/-- A link stays where another object's blocks alone were written. -/
theorem Lk.out (h : Lk d p F w st) (ho : Out G w w') (hd : ∀ g, F g → ¬ G g) : Lk d p F w' st := h.agree (fun g hg => ho.block g (h.lt g hg) (hd g hg)) ho.size

theorem LStep.trans {F1 : Nat → Prop} (ho : Out F w w1) (hs : ∀ g, F1 g → F g ∨ w.heap.size ≤ g) (k : LStep d p F1 w1 w2 st') : LStep d p F w w2 st' := by
  obtain ⟨F2, h1, h2, h3⟩ := k
  refine ⟨F2, h1, ho.trans h2 hs, fun g hg => ?_⟩
  rcases h3 g hg with h | h
  · exact hs g h
  · exact .inr (Nat.le_trans ho.size h)

theorem LStep.then (h : LStep d p F w w1 st') (hb : Below w1.heap.size w1 w2) : LStep d p F w w2 st' := by
  obtain ⟨F2, h1, h2, h3⟩ := h
  exact ⟨F2, h1.below hb, h2.trans (Out.of_below (F := F) hb) fun g hg => .inl hg, h3⟩

theorem LStep.same (h : Lk d p F w st) (hb : Below w.heap.size w w') : LStep d p F w w' st := ⟨F, h.below hb, Out.of_below hb, fun g hg => .inl hg⟩

theorem LkV.len (h : LkV d p F w st v rs) : rs.length = st.fl.length := by rw [← h.fl, List.length_map]

theorem LkV.at (h : LkV d p F w st v rs) {k : Nat} {r : Lw} (hr : rs[k]? = some r) : st.fl[k]? = some r.l := by rw [← h.fl, List.getElem?_map, hr]; rfl

theorem LkV.rowne (h : LkV d p F w st v rs) : ∀ b, v.ownBlock = some b → b ≠ p := by
  intro b hb e
  obtain ⟨cs, hc⟩ := h.row.type hb
  rw [e, h.blk] at hc
  simp at hc
  exact ltyp_l d hc.2

/-- A link's row is another one now, in the world w1; then its two cells are written. -/
theorem LkV.turn (h : LkV d p F w st v rs) {n : Nat} {F1 : Nat → Prop} (hblk : w1.heap[p]? = some (.cells (lcells d v' n) (ltyp d) (0, 0))) (ho : Out F w w1) (hrow : OwnG letc 3 31 0 w1 v' rs') (hin : ∀ b, v'.ownBlock = some b → F1 b) (hraw : ∀ r ∈ rs', Byt F1 w1 r.v r.bs) (hF : ∀ g, F1 g → F g ∨ w.heap.size ≤ g) (hlt : ∀ g, F1 g → g < w1.heap.size) (hp : F1 p) : LStep d p F w w1 ⟨n, rs'.map Lw.l⟩ :=
  ⟨F1, ⟨v', rs', hblk, hp, hrow, hin, hraw, rfl, hlt⟩, ho, hF⟩

theorem LkV.full (h : LkV d p F w st v rs) (hne : 0 < rs.length) :
    ∃ b off cap, v = .slice (some ⟨b, off, none⟩) rs.length cap ∧ rs.length ≤ cap ∧ cap ≤ maxLen ∧ b < w.heap.size ∧ ∀ i r, rs[i]? = some r → w.cell? ⟨b, off + i * 3, none⟩ = some (.int .i64 r.n) ∧ w.cell? ⟨b, off + i * 3 + 1, none⟩ = some (.int .i64 r.to) ∧ w.cell? ⟨b, off + i * 3 + 2, none⟩ = some r.v := by
  obtain ⟨b, off, cap, h1, h2, h3, h4, h5⟩ := h.row.row.full letc_len (by decide) hne
  exact ⟨b, off, cap, h1, h2, h3, h4, fun i a hi => ⟨h5 i a hi 0 _ rfl, h5 i a hi 1 _ rfl, h5 i a hi 2 _ rfl⟩⟩
end

/-- A struct of three cells, made and stored. -/
theorem new_three (w : World) (t : TypeId) (x y z a b c : Value) : ∃ V, (((w.alloc (.cells #[x, y, z] t)).setCell ⟨w.heap.size, 0, none⟩ a).setCell ⟨w.heap.size, 1, none⟩ b).setCell ⟨w.heap.size, 2, none⟩ c = V ∧ w.alloc (.cells #[a, b, c] t) = V ∧ V.heap.size = w.heap.size + 1 ∧ Below w.heap.size w V ∧ V.heap[w.heap.size]? = some (.cells #[a, b, c] t (0, 0)) ∧
    V.cell? ⟨w.heap.size, 0, none⟩ = some a ∧ V.cell? ⟨w.heap.size, 1, none⟩ = some b ∧ V.cell? ⟨w.heap.size, 2, none⟩ = some c := by
  obtain ⟨V, h1, h2, h3, h4⟩ := blk_step w #[a, b, c] t
  refine ⟨V, ?_, h1, h2, h3, h4, blk_cell h4 0 rfl, blk_cell h4 1 rfl, blk_cell h4 2 rfl⟩
  rw [← h1]
  simp [go_sem]

theorem Try.info31 : (Try.prog.info? 31).map (fun i => (i.zero, i.size, i.bytes)) = some (some (.agg #[.int .i64 0, .int .i64 0, .slice none 0 0]), 3, 40) := by kernel_rfl

theorem Try.elemL : Try.prog.underlying 45 = some (.slice (Try.prog.elem 45)) := by kernel_rfl

theorem Try.sizeL (wx : World) : (sizeOf (Try.prog.elem 45)).run Try.prog wx = .ok 3 wx := by kernel_rfl

theorem Try.zeroL (wx : World) : (zeroValue 31).run Try.prog wx = .ok (.agg #[.int .i64 0, .int .i64 0, .slice none 0 0]) wx := by kernel_rfl

/-- Bytes stay where a block that has no byte was written. -/
theorem Is.keep {w w' : World} {v : Value} {bs : List Int} (h : Is .u8 w v bs) {p : Nat} {cs : Array Value} {t : TypeId} {fr : Nat × Nat} (hb : ∀ g, g < w.heap.size → g ≠ p → w'.heap[g]? = w.heap[g]?) (hp : w.heap[p]? = some (.cells cs t fr)) (hc : ∀ (j : Nat) (z : Int), cs[j]? ≠ some (Value.int .u8 z)) : Is .u8 w' v bs := by
  by_cases h0 : 0 < bs.length
  · obtain ⟨b, off, cap, rfl, h1, h2, h3, h4⟩ := h.full h0
    refine h.agree fun g hg => ?_
    simp [Value.ownBlock] at hg
    subst hg
    refine hb _ h3 fun e => ?_
    subst e
    have := h4 0 h0
    simp only [World.cell?, hp] at this
    exact hc _ _ (by simpa using this)
  · refine ⟨h.1, ?_⟩
    rcases h.2 with h1 | ⟨ad, cp, h1, h2, h3, _⟩
    · exact .inl h1
    · exact .inr ⟨ad, cp, h1, h2, h3, fun i hi => by omega⟩

theorem lcells_u (d : Bool) (v : Value) (hv : ∀ z, v ≠ .int .u8 z) (n : Nat) : ∀ (j : Nat) (z : Int), (lcells d v n)[j]? ≠ some (Value.int .u8 z) := by
  intro j z h
  have hm := Array.mem_of_getElem? h
  cases d <;> simp [lcells] at hm
  · exact hv z hm.symm
  · exact hv z hm.symm

/-- A letter was put behind the others. -/
theorem LkV.pushed {d : Bool} {p : Nat} {F : Nat → Prop} {w wa wc V w' : World} {st : Lm.Ls} {v v' : Value} {rs : List Lw} (h : LkV d p F w st v rs) (r : Lw) (n : Nat) (ha : Out (fun g => g = p) w wa) (hsz : wa.heap.size = w.heap.size) (hpa : wa.heap[p]? = some (.cells (lcells d v n) (ltyp d) (0, 0)))
    (own6 : Own .u8 5 w.heap.size wc r.v r.bs) (bel6 : Below w.heap.size wa wc) (belV : Below wc.heap.size wc V) (row : OwnG letc 3 31 0 w' v' (rs ++ [r])) (gr : V.grownBy w' v.ownBlock) (hat : v'.ownBlock = v.ownBlock ∨ v'.ownBlock = some V.heap.size) (j : Nat) (hj : (lcells d v n).setIfInBounds j v' = lcells d v' n) :
    LStep d p F w (w'.setCell ⟨p, j, none⟩ v') ⟨n, st.fl ++ [r.l]⟩ ∧ w'.heap[p]? = some (.cells (lcells d v n) (ltyp d) (0, 0)) := by
  have hpw := h.lt p h.inp
  have s6 := bel6.size
  have sV := belV.size
  have s' := gr.size
  have hvp := h.rowne
  have k1 : ∀ g, g < w.heap.size → g ≠ p → v.ownBlock ≠ some g → w'.heap[g]? = w.heap[g]? := fun g hg hn hv => (gr.block g (by omega) (Ne.symm hv)).trans ((belV.block g (by omega)).trans ((bel6.block g hg).trans (ha.block g hg hn)))
  have hp' : w'.heap[p]? = some (.cells (lcells d v n) (ltyp d) (0, 0)) := (gr.block p (by omega) fun e => hvp p e.symm rfl).trans ((belV.block p (by omega)).trans ((bel6.block p hpw).trans hpa))
  have k2 : ∀ g, g ≠ p → (w'.setCell ⟨p, j, none⟩ v').heap[g]? = w'.heap[g]? := fun g hg => Below.heap_setCell _ _ _ _ hg
  have hv'p : ∀ b, v'.ownBlock = some b → b ≠ p := by
    intro b hb e
    obtain ⟨cs, hc⟩ := row.type hb
    rw [e, hp'] at hc
    simp at hc
    exact ltyp_l d hc.2
  refine ⟨?_, hp'⟩
  have hsF : (w'.setCell ⟨p, j, none⟩ v').heap.size = w'.heap.size := by simp [World.setCell]
  refine ⟨fun g => F g ∨ (w.heap.size ≤ g ∧ g < w'.heap.size), ⟨v', rs ++ [r], ?_, .inl h.inp, row.agree fun b hb => k2 b (hv'p b hb), fun b hb => ?_, fun x hx => ?_, by rw [List.map_append, h.fl]; rfl, fun g hg => ?_⟩, ?_, fun g hg => ?_⟩
  · rw [set_cells hp', hj]
  · rcases hat with e | e
    · exact .inl (h.inr b (by rw [← e]; exact hb))
    · rw [hb] at e
      simp at e
      exact .inr ⟨by omega, (row.lt b hb).2⟩
  · rcases List.mem_append.1 hx with hx | hx
    · refine ((h.raw x hx).mono fun g hg => .inl hg).agree fun b hb => ?_
      have n1 := (h.raw x hx).ne h.blk (ltyp_u d) b hb
      refine (k2 b n1).trans (k1 b (h.lt b ((h.raw x hx).2 b hb).1) n1 fun e => ?_)
      obtain ⟨cs, hc⟩ := h.row.type e
      exact (h.raw x hx).ne hc (by decide) b hb rfl
    · simp only [List.mem_singleton] at hx
      subst hx
      refine (Byt.of_own2 own6 (F := fun g => F g ∨ (w.heap.size ≤ g ∧ g < w'.heap.size)) fun b hb => .inr ⟨(own6.block b hb).1, by have := (own6.block b hb).2; omega⟩).agree fun b hb => ?_
      have hbb := own6.block b hb
      have n1 : b ≠ p := by omega
      refine (k2 b n1).trans ((gr.block b (by omega) fun e => ?_).trans (belV.block b hbb.2))
      have := h.lt b (h.inr b e.symm)
      omega
  · rcases hg with hg | hg
    · have := h.lt g hg
      show g < (w'.setCell ⟨p, j, none⟩ v').heap.size
      omega
    · rw [hsF]; exact hg.2
  · refine ⟨gr.os.trans (belV.os.trans (bel6.os.trans ha.os)), gr.tape.trans (belV.tape.trans (bel6.tape.trans ha.tape)), gr.output.trans (belV.output.trans (bel6.output.trans ha.output)), by omega, fun g hg hn => ?_⟩
    have n1 : g ≠ p := fun e => hn (e ▸ h.inp)
    exact (k2 g n1).trans (k1 g hg n1 fun e => hn (h.inr g e))
  · rcases hg with hg | hg
    · exact .inl hg
    · exact .inr hg.1

end Go.Proofs.Ytadfbmglbaebiaa
