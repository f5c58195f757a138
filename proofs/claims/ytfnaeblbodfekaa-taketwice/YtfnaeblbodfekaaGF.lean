/- Texts of one layer, one behind the other. -/
import Derived.Test.YtfnaeblbodfekaaGC
import Derived.Test.YtfnaeblbodfekaaGE
import Derived.Test.YtfnaeblbodfekaaG9
import Derived.Test.YtfnaeblbodfekaaG4
import Derived.Test.YtfnaeblbodfekaaG8
/- The program's reader: closures over one place. The contract of the first closure, 'number'. -/
namespace Go.Proofs.Ytfnaeblbodfekaa
open Go.RowKit
set_option linter.unusedVariables false

/-- The error that sticks. -/
def bad5 (bad : Bool) : Int := if bad then 5 else 0

section
variable {B : Nat} {w0 w w' : World} {vb : Value} {bs : List Int} {a : Nat} {bad : Bool}

end

/-- What the closures may write. -/
def Wr (B : Nat) : Nat → Prop := fun i => i = B + 2 ∨ i = B + 3

theorem out_E (B : Nat) (w : World) (u : Value) : Out (Wr B) w (w.setCell ⟨B + 3, 0, none⟩ u) := Out.of_grown (grown_setCell w ⟨B + 3, 0, none⟩ u) (fun i hi => .inr (by simpa using hi.symm))
theorem out_A (B : Nat) (w : World) (u : Value) : Out (Wr B) w (w.setCell ⟨B + 2, 0, none⟩ u) := Out.of_grown (grown_setCell w ⟨B + 2, 0, none⟩ u) (fun i hi => .inl (by simpa using hi.symm))
theorem out_two {B : Nat} {w w1 w2 : World} (h : Out (Wr B) w w1) (k : Out (Wr B) w1 w2) : Out (Wr B) w w2 := h.trans k (fun i hi => .inl hi)

end Go.Proofs.Ytfnaeblbodfekaa

/- 'append' of ops and of rows of runs or commits, as one step. No program. -/
namespace Go.Proofs.Ytfnaeblbodfekaa
open Go.RowKit
set_option linter.unusedVariables false

section
variable {P : Program} {w : World}

theorem run_append_ops_at (t ty e : TypeId) (base : Nat) (ht : P.underlying t = some (.slice e)) (hinfo : (P.info? e).map (fun i => (i.zero, i.size, i.bytes)) = some (some (.agg #[.bool false, .string ⟨#[]⟩, .string ⟨#[]⟩]), 3, 40))
    (v : Value) (l : List Bm.Ov) (hown : OwnO e base w v l) (vx : Value) (m : List Bm.Ov) (his : IsO w vx m) (hlen : (l.length + m.length) * 40 ≤ 140737488355328) (hbase : base ≤ w.heap.size) :
    ∃ v' w', (Builtin.append_ #[t, t] ty #[v, vx]).run P w = .ok v' w' ∧ OwnO e base w' v' (l ++ m) ∧ w.grownBy w' v.ownBlock ∧ (v'.ownBlock = v.ownBlock ∨ v'.ownBlock = some w.heap.size) := by
  obtain ⟨i, hi, hz, hsize, hb⟩ := info_parts hinfo
  rcases his with ⟨hv, hy⟩ | ⟨ad, cap, hv, h1, h2, hc⟩
  · subst hy hv
    have hrun := run_append_owned_none (P := P) (w := w) base t ty e i 3 ht hi v l.length _ hown
    exact ⟨v, w, hrun, by simpa using hown, World.grownBy.refl _ _, .inl rfl⟩
  · subst hv
    obtain ⟨v', w', hr, h3, h4, _, h5⟩ := run_append_own_at (P := P) w base t ty e i _ 3 40 ht hi hz hsize hb rfl (by decide) v l.length _ hown ad m.length cap (ocells m) (ocells_len m) hc (ocells_cell m) (by unfold maxLen; omega) hlen hbase
    exact ⟨v', w', hr, by unfold OwnO; rw [ocells_app, List.length_append]; exact h3, h4, h5⟩

theorem run_append_coms_at (t ty e : TypeId) (base : Nat) (ht : P.underlying t = some (.slice e)) (hinfo : (P.info? e).map (fun i => (i.zero, i.size, i.bytes)) = some (some (.agg #[.int .i64 0, .int .i64 0, .slice none 0 0]), 3, 40))
    (v : Value) (l : List Cw) (hown : OwnR e base w v l) (vx : Value) (m : List Cw) (his : RowC w vx m) (hone : ∀ c ∈ m, c.v.oneCell' = true) (hlen : (l.length + m.length) * 40 ≤ 140737488355328) (hbase : base ≤ w.heap.size) :
    ∃ v' w', (Builtin.append_ #[t, t] ty #[v, vx]).run P w = .ok v' w' ∧ OwnR e base w' v' (l ++ m) ∧ w.grownBy w' v.ownBlock ∧ (v'.ownBlock = v.ownBlock ∨ v'.ownBlock = some w.heap.size) := by
  obtain ⟨i, hi, hz, hsize, hb⟩ := info_parts hinfo
  rcases his with ⟨hv, hy⟩ | ⟨ad, cap, hv, h1, h2, hc⟩
  · subst hy hv
    have hrun := run_append_owned_none (P := P) (w := w) base t ty e i 3 ht hi v l.length _ hown
    exact ⟨v, w, hrun, by simpa using hown, World.grownBy.refl _ _, .inl rfl⟩
  · subst hv
    obtain ⟨v', w', hr, h3, h4, _, h5⟩ := run_append_own_at (P := P) w base t ty e i _ 3 40 ht hi hz hsize hb rfl (by decide) v l.length _ hown ad m.length cap (ccells m) (ccells_len m) hc (ccells_cell m hone) (by unfold maxLen; omega) hlen hbase
    exact ⟨v', w', hr, by unfold OwnR; rw [ccells_app, List.length_append]; exact h3, h4, h5⟩

end

end Go.Proofs.Ytfnaeblbodfekaa

/- Commits in memory of their own, put together one by one. -/
namespace Go.Proofs.Ytfnaeblbodfekaa
open Go.RowKit
set_option linter.unusedVariables false

/-- What a commit that was read is. -/
def CFit (e n : Int) (l : List Bm.Ov) : Prop := In64 e ∧ In64 n ∧ FitO l ∧ l.length ≤ 8

theorem cfit_no : CFit 0 0 [] := ⟨by simp [In64], by simp [In64], fun o ho => by simp at ho, by simp⟩
theorem cfit_ok {e n : Int} {l : List Bm.Ov} (h : Cm.chk e n l = 0) : CFit e n l := by
  obtain ⟨h1, h2, h3, h4, h5⟩ := Cm.chk_zero h
  exact ⟨⟨by omega, by omega⟩, ⟨by omega, by omega⟩, (small_of h5).fit, (Bm.chkL_zero h5).2.1⟩

/-- Commits so far. -/
structure ShS (b : Nat) (w : World) (vc : Value) (cs : List Cw) : Prop where
  c : OwnR 50 b w vc cs
  o : CopyR b w cs
  i : ∀ c ∈ cs, In64 c.e ∧ In64 c.n
  ap : ApC cs
  f : FitC cs

theorem ShS.nil (b : Nat) (w : World) : ShS b w (.slice none 0 0) [] := ⟨OwnR.nil _ _ _, fun c hc => by simp at hc, fun c hc => by simp at hc, fun i j c d _ hc => by simp at hc, fun c hc => by simp at hc⟩

theorem ShS.below {b : Nat} {w w' : World} {vc : Value} {cs : List Cw} (h : ShS b w vc cs) (hb : Below w.heap.size w w') : ShS b w' vc cs := ⟨h.c.below hb, h.o.below hb, h.i, h.ap, h.f⟩

theorem ShS.out {b : Nat} {w w' : World} {vc : Value} {cs : List Cw} {F : Nat → Prop} (h : ShS b w vc cs) (ho : Out F w w') (hF : ∀ i, F i → i < b) : ShS b w' vc cs := by
  have k : ∀ (v : Value), (∀ g, v.ownBlock = some g → b ≤ g ∧ g < w.heap.size) → ∀ g, v.ownBlock = some g → w'.heap[g]? = w.heap[g]? := fun v hv g hg => ho.block g (hv g hg).2 fun hf => by have := hF g hf; have := (hv g hg).1; omega
  exact ⟨row_agree h.c (k _ (World.ownsRow.lt h.c)), fun c hc => row_agree (h.o c hc) (k _ (World.ownsRow.lt (h.o c hc))), h.i, h.ap, h.f⟩

theorem ShS.rebase {b b' : Nat} {w : World} {vc : Value} {cs : List Cw} (h : ShS b w vc cs) (hb : b' ≤ b) : ShS b' w vc cs := ⟨row_rebase h.c hb, fun c hc => row_rebase (h.o c hc) hb, h.i, h.ap, h.f⟩

/-- One more. -/
theorem ShS.snoc {b : Nat} {w z4 : World} {vc v4 : Value} {cs : List Cw} {e n : Int} {vl : Value} {l : List Bm.Ov} {N : Nat} (h : ShS b w vc cs) (kp : KeepT 50 w z4) (hc : OwnR 50 b z4 v4 (cs ++ [⟨e, n, vl, l⟩])) (ho : OwnO 59 N w vl l) (hN : b ≤ N) (hlt : ∀ d ∈ cs, ∀ g, d.v.ownBlock = some g → g < N) (hf : CFit e n l) : ShS b z4 v4 (cs ++ [⟨e, n, vl, l⟩]) := by
  refine ⟨hc, (h.o.keepT kp).snoc ((ho.rebase hN).keepT kp (by decide)), fun c hcc => ?_, apc_snoc h.ap hlt (fun g hg => (World.ownsRow.lt ho g hg).1), fun c hcc => ?_⟩
  · rcases List.mem_append.1 hcc with hcc | hcc
    · exact h.i c hcc
    · rw [List.mem_singleton.1 hcc]; exact ⟨hf.1, hf.2.1⟩
  · rcases List.mem_append.1 hcc with hcc | hcc
    · exact h.f c hcc
    · rw [List.mem_singleton.1 hcc]; exact ⟨hf.2.2.1, by have := hf.2.2.2; show l.length * 40 ≤ _; omega⟩

/-- A commit is appended to a row of copies. -/
theorem ShS.push {b : Nat} {w w6 : World} {v : Value} {cs : List Cw} (h : ShS b w v cs) (hbw : b ≤ w.heap.size) (hb : Below w.heap.size w w6) (c : Cw) (hc : OwnO 59 w.heap.size w6 c.v c.l) (hf : CFit c.e c.n c.l) (hl : cs.length ≤ 2000000) :
    ∃ V, w6.alloc (.cells #[.int .i64 c.e, .int .i64 c.n, c.v] 50) = V ∧ Below w6.heap.size w6 V ∧ V.heap.size = w6.heap.size + 1 ∧ ∀ ty, ∃ v2 w2, (Builtin.append_ #[22, 22] ty #[v, .slice (some ⟨w6.heap.size, 0, none⟩) 1 1]).run Try.prog V = .ok v2 w2 ∧ ShS b w2 v2 (cs ++ [c]) ∧ V.grownBy w2 v.ownBlock ∧ ∃ a n k, v2 = .slice a n k := by
  obtain ⟨V, hV, szV, belV, ownV⟩ := coms_step 50 w6 #[.int .i64 c.e, .int .i64 c.n, c.v] 1 [c] rfl rfl (by simp [maxLen])
  have sz6 := hb.size
  have bwV : Below w.heap.size w V := hb.trans (belV.mono sz6)
  refine ⟨V, hV, belV, szV, fun ty => ?_⟩
  have hV' := h.below bwV
  obtain ⟨v2, w2, hr, own2, gr2, at2⟩ := run_append_coms_at (P := Try.prog) (w := V) 22 ty 50 b Try.underlying22 Try.info50 v cs hV'.c _ [c] ownV.row (fun d hd => by rw [List.mem_singleton.1 hd]; exact hc.is.one) (by simp; omega) (by omega)
  refine ⟨v2, w2, hr, ?_, gr2, ?_⟩
  · exact hV'.snoc (N := w.heap.size) (KeepT.of_row hV'.c gr2) own2 (hc.below belV) hbw (fun d hd g hg => (OwnO.block (h.o d hd) g hg).2) hf
  · obtain ⟨a1, k1, h1, _⟩ := own2.row.shape
    exact ⟨a1, _, k1, h1⟩

end Go.Proofs.Ytfnaeblbodfekaa

/- The contract of read's second closure, 'one': one commit. -/
namespace Go.Proofs.Ytfnaeblbodfekaa
open Go.RowKit
set_option linter.unusedVariables false

theorem no_frm {bs : List Int} {a : Nat} (h : ∀ x : Nat, x ≤ bs.length → ¬ Vm.enc x <+: bs.drop a) : ∀ c' : Cm.Cv, Cm.chk c'.e c'.n c'.l = 0 → ¬ Fm.frm (Mm.cb c') <+: bs.drop a := fun c' _ hp => by
  obtain ⟨h1, h2, h3⟩ := Fm.frm_pre hp
  rw [List.length_drop] at h3
  exact h _ (by omega) h1

theorem no_room {bs : List Int} {a u : Nat} (h : Vm.enc u <+: bs.drop a) (hu : bs.length - (a + Vm.sz u) < u) : ∀ c' : Cm.Cv, Cm.chk c'.e c'.n c'.l = 0 → ¬ Fm.frm (Mm.cb c') <+: bs.drop a := fun c' _ hp => by
  obtain ⟨h1, h2, h3⟩ := Fm.frm_pre hp
  have e := Vm.pre_one _ _ _ h h1
  subst e
  rw [List.length_drop] at h2 h3
  omega

/-- The piece that a count and what is behind it makes. -/
theorem one_piece {bs : List Int} {a u : Nat} (h : Vm.enc u <+: bs.drop a) (hu : u ≤ bs.length - (a + Vm.sz u)) : ((bs.drop (a + Vm.sz u)).take u).length = u ∧ Fm.frm ((bs.drop (a + Vm.sz u)).take u) <+: bs.drop a := by
  have := Fm.frm_of (bs := bs.drop a) (x := u) h (by rw [List.length_drop]; omega)
  rw [List.drop_drop] at this
  exact this

theorem one_good {bs : List Int} {a u : Nat} {e n : Int} {l : List Bm.Ov} (h : Vm.enc u <+: bs.drop a) (hu : u ≤ bs.length - (a + Vm.sz u)) (hc : Cm.chk e n l = 0) (he : Cm.encC e n l = (bs.drop (a + Vm.sz u)).take u) : Mm.CStep bs a false ⟨e, n, l⟩ (a + Vm.sz u + u) false := by
  obtain ⟨h1, h2⟩ := one_piece h hu
  refine .inr (.inr ⟨rfl, rfl, hc, ?_, ?_⟩)
  · show Fm.frm (Cm.encC e n l) <+: _
    rw [he]
    exact h2
  · show _ = a + (Fm.frm (Cm.encC e n l)).length
    rw [he, Fm.frm_len, h1]
    omega

theorem one_bad {bs : List Int} {a u : Nat} (h : Vm.enc u <+: bs.drop a) (hu : u ≤ bs.length - (a + Vm.sz u)) (hno : ∀ e' n' l', Cm.chk e' n' l' = 0 → Cm.encC e' n' l' ≠ (bs.drop (a + Vm.sz u)).take u) : ∀ c' : Cm.Cv, Cm.chk c'.e c'.n c'.l = 0 → ¬ Fm.frm (Mm.cb c') <+: bs.drop a := fun c' hc hp => by
  obtain ⟨h1, h2⟩ := one_piece h hu
  exact hno c'.e c'.n c'.l hc (Fm.frm_one hp h2)

/-- Three cells written again. -/
theorem same3 {V : World} {R : Nat} {t : TypeId} {x y z : Value} (hR : V.heap[R]? = some (.cells #[x, y, z] t (0, 0))) : ((V.setCell ⟨R, 0, none⟩ x).setCell ⟨R, 1, none⟩ y).setCell ⟨R, 2, none⟩ z = V := by
  have h0 : V.setCell ⟨R, 0, none⟩ x = V := set_same hR (j := 0) rfl
  have h1 : V.setCell ⟨R, 1, none⟩ y = V := set_same hR (j := 1) rfl
  have h2 : V.setCell ⟨R, 2, none⟩ z = V := set_same hR (j := 2) rfl
  rw [h0, h1, h2]

end Go.Proofs.Ytfnaeblbodfekaa

/- A message that is read: whose memory it is, what is known of it; the reader's first closure where its answer is known. -/
namespace Go.Proofs.Ytfnaeblbodfekaa
open Go.RowKit
set_option linter.unusedVariables false

theorem sstep_is (bs : List Int) (mx a : Nat) (bad : Bool) : ∃ (u a' : Nat) (bad' : Bool), SStep bs mx a bad u a' bad' := by
  cases bad
  · by_cases h : ∃ x : Nat, x ≤ mx ∧ Vm.enc x <+: bs.drop a
    · obtain ⟨x, h1, h2⟩ := h
      exact ⟨x, _, false, .inr (.inr ⟨rfl, rfl, h1, h2, rfl⟩)⟩
    · exact ⟨0, a, true, .inr (.inl ⟨rfl, rfl, rfl, rfl, fun x h1 h2 => h ⟨x, h1, h2⟩⟩)⟩
  · exact ⟨0, a, true, .inl ⟨rfl, rfl, rfl, rfl⟩⟩

theorem sstep_one {bs : List Int} {mx a u a' v a'' : Nat} {bad b' b'' : Bool} (h : SStep bs mx a bad u a' b') (k : SStep bs mx a bad v a'' b'') : u = v ∧ a' = a'' ∧ b' = b'' := by
  rcases h with ⟨rfl, rfl, rfl, rfl⟩ | ⟨rfl, rfl, rfl, rfl, h⟩ | ⟨rfl, rfl, h1, h2, rfl⟩
  · rcases k with ⟨_, rfl, rfl, rfl⟩ | ⟨k, _⟩ | ⟨k, _⟩
    · exact ⟨rfl, rfl, rfl⟩
    · simp at k
    · simp at k
  · rcases k with ⟨k, _⟩ | ⟨_, rfl, rfl, rfl, _⟩ | ⟨_, _, k1, k2, _⟩
    · simp at k
    · exact ⟨rfl, rfl, rfl⟩
    · exact absurd k2 (h _ k1)
  · rcases k with ⟨k, _⟩ | ⟨_, _, _, _, k⟩ | ⟨_, rfl, k1, k2, rfl⟩
    · simp at k
    · exact absurd h2 (k _ h1)
    · have := Vm.pre_one _ _ _ h2 k2
      subst this
      exact ⟨rfl, rfl, rfl⟩

theorem sstep_max {bs : List Int} {mx a u a' : Nat} {b b' : Bool} (h : SStep bs mx a b u a' b') : u ≤ mx := by
  rcases h with ⟨_, _, rfl, _⟩ | ⟨_, _, rfl, _⟩ | ⟨_, _, h, _⟩
  · omega
  · omega
  · exact h

/-- A message whose lists are the call's own. -/
structure OwnM (base : Nat) (w : World) (m : Mw) : Prop where
  s : OwnS base w m.vs m.ss
  c : OwnR 50 base w m.vc m.cs
  o : CopyR base w m.cs
  i : ∀ c ∈ m.cs, In64 c.e ∧ In64 c.n
  ap : ApC m.cs

theorem OwnM.is {base : Nat} {w : World} {m : Mw} (h : OwnM base w m) : IsM w m := ⟨h.s.row, h.c.row, fun c hc => ⟨(h.o c hc).is, h.i c hc⟩⟩

theorem OwnM.no (base : Nat) (w : World) : OwnM base w mno := ⟨OwnG.nil _ _ _ _ _, OwnR.nil _ _ _, fun c hc => by simp [mno] at hc, fun c hc => by simp [mno] at hc, fun i j c d _ hc => by simp [mno] at hc⟩

theorem OwnM.rebase {base base' : Nat} {w : World} {m : Mw} (h : OwnM base w m) (hb : base' ≤ base) : OwnM base' w m := ⟨ownS_rebase h.s hb, h.c.rebase hb, fun c hc => (h.o c hc).rebase hb, h.i, h.ap⟩

theorem OwnM.below {base : Nat} {w w' : World} {m : Mw} (h : OwnM base w m) (hb : Below w.heap.size w w') : OwnM base w' m := ⟨ownS_below h.s hb, h.c.below hb, h.o.below hb, h.i, h.ap⟩

/-- Its lists stay where only blocks ahead of them are written. -/
theorem OwnM.out {base : Nat} {w w' : World} {m : Mw} {F : Nat → Prop} (h : OwnM base w m) (ho : Out F w w') (hF : ∀ i, F i → i < base) : OwnM base w' m := by
  have k : ∀ (v : Value), (∀ b, v.ownBlock = some b → base ≤ b ∧ b < w.heap.size) → ∀ b, v.ownBlock = some b → w'.heap[b]? = w.heap[b]? := fun v hv b hb => ho.block b (hv b hb).2 fun hf => by have := hF b hf; have := (hv b hb).1; omega
  refine ⟨h.s.agree (k _ h.s.lt), row_agree h.c (k _ (World.ownsRow.lt h.c)), fun c hc => ?_, h.i, h.ap⟩
  exact row_agree (h.o c hc) (k _ (World.ownsRow.lt (h.o c hc)))

/-- What the reader has come to. -/
def Rdd (bs : List Int) (m : Mm.Msg) (a : Nat) (bad : Bool) : Prop := (Mm.GoC bs (Mm.hd m) m.cs a bad ∧ (bad = false → Mm.Sh m)) ∨ (¬ Mm.Ok m ∧ Mm.Dc bs Mm.no 5)

theorem rd_end {bs : List Int} {m : Mm.Msg} {a : Nat} {bad : Bool} (h : Rdd bs m a bad) : ((bad = false ∧ a = bs.length ∧ Mm.Ok m) ∧ Mm.Dc bs m 0) ∨ (¬ (bad = false ∧ a = bs.length ∧ Mm.Ok m) ∧ Mm.Dc bs Mm.no 5) := by
  rcases h with ⟨h1, h2⟩ | ⟨h1, h2⟩
  · exact Mm.go_end h1 h2
  · exact .inr ⟨fun k => h1 k.2.2, h2⟩

section
variable {B : Nat} {w0 w w' : World} {vb : Value} {bs : List Int} {a a' : Nat} {bad bad' : Bool} {m : Mw}

end

end Go.Proofs.Ytfnaeblbodfekaa
