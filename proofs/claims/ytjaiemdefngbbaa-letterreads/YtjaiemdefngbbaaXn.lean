/- A message that is read: whose memory it is, what is known of it; the reader's first closure where its answer is known. -/
import Derived.Test.YtjaiemdefngbbaaXm
import Derived.Test.YtjaiemdefngbbaaA3
namespace Go.Proofs.Ytjaiemdefngbbaa
open Go.RowKit
set_option linter.unusedVariables false

theorem sstep_is (bs : List Int) (mx a : Nat) (bad : Bool) : ∃ (u a' : Nat) (bad' : Bool), SStep bs mx a bad u a' bad' := by
  cases bad
  · by_cases h : ∃ x : Nat, x ≤ mx ∧ Vm.enc x <+: bs.drop a
    · obtain ⟨x, h1, h2⟩ := h
      exact ⟨x, _, false, .inr (.inr ⟨rfl, rfl, h1, h2, rfl⟩)⟩
    · exact ⟨0, a, true, .inr (.inl ⟨rfl, rfl, rfl, rfl, fun x h1 h2 => h ⟨x, h1, h2⟩⟩)⟩
  · exact ⟨0, a, true, .inl ⟨rfl, rfl, rfl, rfl⟩⟩

theorem sstep_one {bs : List Int} {mx a u a' v a'' : Nat} {bad b' b'' : Bool} (h : SStep bs mx a bad u a' b') (k : SStep bs mx a bad v a'' b'') : u = v ∧ a' = a'' ∧ b' = b'' := by
  rcases h with ⟨rfl, rfl, rfl, rfl⟩ | ⟨rfl, rfl, rfl, rfl, h⟩ | ⟨rfl, rfl, h1, h2, rfl⟩
  · rcases k with ⟨_, rfl, rfl, rfl⟩ | ⟨k, _⟩ | ⟨k, _⟩
    · exact ⟨rfl, rfl, rfl⟩
    · simp at k
    · simp at k
  · rcases k with ⟨k, _⟩ | ⟨_, rfl, rfl, rfl, _⟩ | ⟨_, _, k1, k2, _⟩
    · simp at k
    · exact ⟨rfl, rfl, rfl⟩
    · exact absurd k2 (h _ k1)
  · rcases k with ⟨k, _⟩ | ⟨_, _, _, _, k⟩ | ⟨_, rfl, k1, k2, rfl⟩
    · simp at k
    · exact absurd h2 (k _ h1)
    · have := Vm.pre_one _ _ _ h2 k2
      subst this
      exact ⟨rfl, rfl, rfl⟩

theorem sstep_max {bs : List Int} {mx a u a' : Nat} {b b' : Bool} (h : SStep bs mx a b u a' b') : u ≤ mx := by
  rcases h with ⟨_, _, rfl, _⟩ | ⟨_, _, rfl, _⟩ | ⟨_, _, h, _⟩
  · omega
  · omega
  · exact h

/-- The closure 'number', its answer known. -/
theorem number_at (B : Nat) (w0 w : World) (vb : Value) (bs : List Int) (a : Nat) (bad : Bool) (most u a' : Nat) (bad' : Bool) (h : Rst B w0 w vb bs a bad) (hl : bs.length ≤ 100000000000000) (hm : most < 9223372036854775808) (hS : SStep bs most a bad u a' bad') :
    Calls Try.prog 61 #[.int .i64 most, .pointer (some ⟨B + 3, 0, none⟩), .pointer (some ⟨B, 0, none⟩), .pointer (some ⟨B + 2, 0, none⟩)] w fun E w' => E = .returned (.int .i64 u) ∧ Hid (Rst B w0 w' vb bs a' bad' ∧ Out (Wr B) w w') := by
  refine (number_any B w0 w vb bs a bad most h hl hm).mono ?_
  rintro E w' ⟨v, a2, b2, rfl, H⟩
  obtain ⟨h1, h2, h3⟩ := H.out
  obtain ⟨rfl, rfl, rfl⟩ := sstep_one hS h2
  exact ⟨rfl, hide ⟨h1, h3⟩⟩

/-- Commits whose ops lie apart. -/
def ApC (cs : List Cw) : Prop := ∀ (i j : Nat) (c d : Cw), i ≠ j → cs[i]? = some c → cs[j]? = some d → c.v.ownBlock = none ∨ c.v.ownBlock ≠ d.v.ownBlock

/-- A message whose lists are the call's own. -/
structure OwnM (base : Nat) (w : World) (m : Mw) : Prop where
  s : OwnS base w m.vs m.ss
  c : OwnR 36 base w m.vc m.cs
  o : CopyR base w m.cs
  i : ∀ c ∈ m.cs, In64 c.e ∧ In64 c.n
  ap : ApC m.cs

theorem OwnM.is {base : Nat} {w : World} {m : Mw} (h : OwnM base w m) : IsM w m := ⟨h.s.row, h.c.row, fun c hc => ⟨(h.o c hc).is, h.i c hc⟩⟩

theorem OwnM.no (base : Nat) (w : World) : OwnM base w mno := ⟨OwnG.nil _ _ _ _ _, OwnR.nil _ _ _, fun c hc => by simp [mno] at hc, fun c hc => by simp [mno] at hc, fun i j c d _ hc => by simp [mno] at hc⟩

theorem OwnR.rebase {e base base' : Nat} {w : World} {v : Value} {l : List Cw} (h : OwnR e base w v l) (hb : base' ≤ base) : OwnR e base' w v l := by
  refine ⟨h.1, ?_⟩
  rcases h.2 with h | ⟨g, cap, cur, hv, h1, r⟩
  · exact .inl h
  · exact .inr ⟨g, cap, cur, hv, by omega, r⟩

theorem OwnM.rebase {base base' : Nat} {w : World} {m : Mw} (h : OwnM base w m) (hb : base' ≤ base) : OwnM base' w m := ⟨ownS_rebase h.s hb, h.c.rebase hb, fun c hc => (h.o c hc).rebase hb, h.i, h.ap⟩

theorem OwnM.below {base : Nat} {w w' : World} {m : Mw} (h : OwnM base w m) (hb : Below w.heap.size w w') : OwnM base w' m := ⟨ownS_below h.s hb, h.c.below hb, h.o.below hb, h.i, h.ap⟩

/-- Its lists stay where only blocks ahead of them are written. -/
theorem OwnM.out {base : Nat} {w w' : World} {m : Mw} {F : Nat → Prop} (h : OwnM base w m) (ho : Out F w w') (hF : ∀ i, F i → i < base) : OwnM base w' m := by
  have k : ∀ (v : Value), (∀ b, v.ownBlock = some b → base ≤ b ∧ b < w.heap.size) → ∀ b, v.ownBlock = some b → w'.heap[b]? = w.heap[b]? := fun v hv b hb => ho.block b (hv b hb).2 fun hf => by have := hF b hf; have := (hv b hb).1; omega
  refine ⟨h.s.agree (k _ h.s.lt), row_agree h.c (k _ (World.ownsRow.lt h.c)), fun c hc => ?_, h.i, h.ap⟩
  exact row_agree (h.o c hc) (k _ (World.ownsRow.lt (h.o c hc)))

/-- What the reader has come to. -/
def Rdd (bs : List Int) (m : Mm.Msg) (a : Nat) (bad : Bool) : Prop := (Mm.GoC bs (Mm.hd m) m.cs a bad ∧ (bad = false → Mm.Sh m)) ∨ (¬ Mm.Ok m ∧ Mm.Dc bs Mm.no 5)

theorem rd_end {bs : List Int} {m : Mm.Msg} {a : Nat} {bad : Bool} (h : Rdd bs m a bad) : ((bad = false ∧ a = bs.length ∧ Mm.Ok m) ∧ Mm.Dc bs m 0) ∨ (¬ (bad = false ∧ a = bs.length ∧ Mm.Ok m) ∧ Mm.Dc bs Mm.no 5) := by
  rcases h with ⟨h1, h2⟩ | ⟨h1, h2⟩
  · exact Mm.go_end h1 h2
  · exact .inr ⟨fun k => h1 k.2.2, h2⟩

/-- Two cells in one: the variables of the reader, the closure's, and the message so far. -/
structure RdS (B : Nat) (w0 w : World) (vb : Value) (bs : List Int) (a : Nat) (bad : Bool) (m : Mw) : Prop where
  r : Rst B w0 w vb bs a bad
  f : Fnb B w
  m : MAt w (B + 1) m

section
variable {B : Nat} {w0 w w' : World} {vb : Value} {bs : List Int} {a a' : Nat} {bad bad' : Bool} {m : Mw}

theorem RdS.lt (h : RdS B w0 w vb bs a bad m) : B + 4 < w.heap.size := blk_lt h.f
theorem RdS.below (h : RdS B w0 w vb bs a bad m) (hb : Below w.heap.size w w') : RdS B w0 w' vb bs a bad m := ⟨h.r.below hb, h.f.below hb, h.m.below hb⟩
theorem RdS.step (h : RdS B w0 w vb bs a bad m) (hr : Rst B w0 w' vb bs a' bad') (ho : Out (Wr B) w w') : RdS B w0 w' vb bs a' bad' m :=
  ⟨hr, h.f.out ho, (ho.block (B + 1) h.m.lt (by unfold Wr; omega)).trans h.m⟩
theorem RdS.put (h : RdS B w0 w vb bs a bad m) (j : Nat) (u : Value) (m' : Mw) (hm : (mc m).setIfInBounds j u = mc m') : RdS B w0 (w.setCell ⟨B + 1, j, none⟩ u) vb bs a bad m' := by
  have hg := grown_setCell w ⟨B + 1, j, none⟩ u
  have hl := h.lt
  refine ⟨h.r.other hg (by simp) (by simp) (by simp) (by simp), (hg.block (B + 4) (by omega) (by simp)).trans h.f, ?_⟩
  unfold MAt
  rw [← hm]
  exact set_cells h.m j u
theorem RdS.cf (h : RdS B w0 w vb bs a bad m) : w.cell? ⟨B + 4, 0, none⟩ = some (.func (.func 61) #[] #[.pointer (some ⟨B + 3, 0, none⟩), .pointer (some ⟨B, 0, none⟩), .pointer (some ⟨B + 2, 0, none⟩)]) := blk_cell h.f 0 rfl
theorem RdS.ca (h : RdS B w0 w vb bs a bad m) : w.cell? ⟨B + 2, 0, none⟩ = some (.int .i64 a) := blk_cell h.r.at' 0 rfl
theorem RdS.ce (h : RdS B w0 w vb bs a bad m) : w.cell? ⟨B + 3, 0, none⟩ = some (.int .i64 (bad5 bad)) := blk_cell h.r.er 0 rfl
theorem RdS.fm (h : RdS B w0 w vb bs a bad m) (j : Nat) : w.frozen? ⟨B + 1, j, none⟩ = false := blk_froz h.m j
/-- The message's own lists stay under what the closures and the function write. -/
theorem OwnM.wr (h : OwnM (B + 5) w m) (ho : Out (Wr B) w w') : OwnM (B + 5) w' m := h.out ho (fun i hi => by unfold Wr at hi; omega)
theorem OwnM.set (h : OwnM (B + 5) w m) (j : Nat) (u : Value) : OwnM (B + 5) (w.setCell ⟨B + 1, j, none⟩ u) m := h.out (F := fun i => i = B + 1) (Out.of_grown (grown_setCell w ⟨B + 1, j, none⟩ u) (fun i hi => by simpa using hi.symm)) (fun i hi => by omega)
end

/-- The function's own first steps: its variables. -/
theorem read_start (w : World) (vb : Value) (bs : List Int) (h : Is .u8 w vb bs) :
    ∃ w1 w2 w3 w4 w5 w6, w.alloc (.cells #[vb] 22) = w1 ∧ w1.alloc (.cells #[.int .i64 0, .int .i64 0, .int .u8 0, .int .i64 0, .slice none 0 0, .int .i64 0, .int .i64 0, .slice none 0 0] 30) = w2 ∧ w2.alloc (.cells #[.int .i64 0] 3) = w3 ∧ w3.alloc (.cells #[.int .i64 0] 23) = w4 ∧
      w1.heap.size = w.heap.size + 1 ∧ w2.heap.size = w.heap.size + 2 ∧ w3.heap.size = w.heap.size + 3 ∧ w4.heap.size = w.heap.size + 4 ∧
      w4.alloc (.cells #[.nilFunc] 73) = w5 ∧ w5.cell? ⟨w.heap.size + 4, 0, none⟩ = some .nilFunc ∧ w5.frozen? ⟨w.heap.size + 4, 0, none⟩ = false ∧
      w5.setCell ⟨w.heap.size + 4, 0, none⟩ (.func (.func 61) #[] #[.pointer (some ⟨w.heap.size + 3, 0, none⟩), .pointer (some ⟨w.heap.size, 0, none⟩), .pointer (some ⟨w.heap.size + 2, 0, none⟩)]) = w6 ∧ RdS w.heap.size w w6 vb bs 0 false mno := by
  obtain ⟨w1, h1, s1, b1, k1⟩ := blk_step w #[vb] 22
  obtain ⟨w2, h2, s2, b2, k2⟩ := blk_step w1 #[.int .i64 0, .int .i64 0, .int .u8 0, .int .i64 0, .slice none 0 0, .int .i64 0, .int .i64 0, .slice none 0 0] 30
  obtain ⟨w3, h3, s3, b3, k3⟩ := blk_step w2 #[.int .i64 0] 3
  obtain ⟨w4, h4, s4, b4, k4⟩ := blk_step w3 #[.int .i64 0] 23
  obtain ⟨w5, h5, s5, b5, k5⟩ := blk_step w4 #[.nilFunc] 73
  have s4' : w4.heap.size = w.heap.size + 4 := by omega
  rw [s4'] at k5
  obtain ⟨w6, h6, k6, g6, f6⟩ := putAt k5 0 (.func (.func 61) #[] #[.pointer (some ⟨w.heap.size + 3, 0, none⟩), .pointer (some ⟨w.heap.size, 0, none⟩), .pointer (some ⟨w.heap.size + 2, 0, none⟩)])
  have b06 : Below w.heap.size w w6 := below_put ((((b1.trans (b2.mono (by omega))).trans (b3.mono (by omega))).trans (b4.mono (by omega))).trans (b5.mono (by omega))) g6 (by omega) (by omega)
  have q : ∀ i, i < w4.heap.size → w6.heap[i]? = w4.heap[i]? := fun i hi => (g6.block i (by omega) (by simp; omega)).trans (b5.block i hi)
  refine ⟨w1, w2, w3, w4, w5, w6, h1, h2, h3, h4, s1, by omega, by omega, by omega, h5, blk_cell k5 0 rfl, f6, h6, ⟨h, rfl, b06, ?_, ?_, ?_, by omega⟩, k6, ?_⟩
  · exact (q _ (by omega)).trans ((b4.block _ (by omega)).trans ((b3.block _ (by omega)).trans ((b2.block _ (by omega)).trans k1)))
  · rw [show w.heap.size + 2 = w2.heap.size by omega]
    exact (q _ (by omega)).trans ((b4.block _ (by omega)).trans k3)
  · rw [show w.heap.size + 3 = w3.heap.size by omega]
    exact (q _ (by omega)).trans k4
  · unfold MAt
    rw [show w.heap.size + 1 = w1.heap.size by omega]
    exact (q _ (by omega)).trans ((b4.block _ (by omega)).trans ((b3.block _ (by omega)).trans k2))

end Go.Proofs.Ytjaiemdefngbbaa
