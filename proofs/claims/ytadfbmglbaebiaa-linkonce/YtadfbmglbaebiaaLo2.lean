/- What LinkOnce keeps, call by call. -/
import Derived.Test.YtadfbmglbaebiaaLo
import Derived.Test.YtadfbmglbaebiaaGx
namespace Go.Proofs.Ytadfbmglbaebiaa
open Go.RowKit Go.Shelf
set_option linter.unusedVariables false

theorem or_send {st : Lm.Ls} {sent : List Lm.Lt} {os : List Bool} (h : OR st sent os) (to : Int) {bs : List Int} (hb : bs.length ≤ 40) :
    ((Lm.send st to bs).1.2 = 0 ∧ (Lm.send st to bs).1.1 = sent.length ∧ OR (Lm.send st to bs).2 (sent ++ [⟨sent.length, to, bs⟩]) (os ++ [false])) ∨ (((Lm.send st to bs).1.2 == 0) = false ∧ (Lm.send st to bs).2 = st) := by
  unfold Lm.send
  split
  · exact .inr ⟨rfl, rfl⟩
  · rename_i ht
    rcases or_put h (to := to) (bs := bs) (by omega) hb with h1 | ⟨h1, h2⟩
    · exact .inl h1
    · exact .inr ⟨by rw [h1]; rfl, h2⟩

theorem or_twi {st : Lm.Ls} {sent : List Lm.Lt} {os : List Bool} (h : OR st sent os) (n : Int) :
    ((Lm.twi st n).1.2 = 0 ∧ (Lm.twi st n).1.1 = sent.length ∧ inF sent os n ∧ ∃ x, sent[n.toNat]? = some x ∧ OR (Lm.twi st n).2 (sent ++ [⟨sent.length, x.to, x.bs⟩]) (os ++ [false])) ∨ (((Lm.twi st n).1.2 == 0) = false ∧ (Lm.twi st n).2 = st) := by
  unfold Lm.twi
  cases hx : st.fl[Lm.pl st.fl n]? with
  | none => exact .inr ⟨rfl, rfl⟩
  | some x =>
    obtain ⟨_, h2, h3, h4, h5⟩ := or_at h hx
    rcases or_put h (to := x.to) (bs := x.bs) h4 h5 with ⟨p1, p2, p3⟩ | ⟨h1, h2⟩
    · exact .inl ⟨p1, p2, h2, x, h3, p3⟩
    · exact .inr ⟨by simp only [h1]; rfl, h2⟩

theorem or_dl {st : Lm.Ls} {sent : List Lm.Lt} {os : List Bool} (h : OR st sent os) (n : Int) :
    ((Lm.del st n).1.2 = 0 ∧ inF sent os n ∧ sent[n.toNat]? = some (Lm.del st n).1.1 ∧ (Lm.del st n).1.1.bs.length ≤ 40 ∧ OR (Lm.del st n).2 sent (os.set n.toNat true)) ∨ ((Lm.del st n).1.2 = 4 ∧ ¬ inF sent os n ∧ (Lm.del st n).2 = st) := by
  unfold Lm.del
  cases hx : st.fl[Lm.pl st.fl n]? with
  | none => exact .inr ⟨rfl, or_no h hx, rfl⟩
  | some x =>
    obtain ⟨_, h2, h3, h4, h5⟩ := or_at h hx
    exact .inl ⟨rfl, h2, h3, h5, or_del h hx⟩

theorem not_inF {sent : List Lm.Lt} {os : List Bool} {n : Int} (h : ¬ inF sent os n) (hl : os.length = sent.length) : n < 1 ∨ (sent.length : Int) ≤ n ∨ ∃ m : Nat, n = m ∧ 1 ≤ m ∧ m < sent.length ∧ os[m]? = some true := by
  by_cases h1 : n < 1
  · exact .inl h1
  · by_cases h2 : (sent.length : Int) ≤ n
    · exact .inr (.inl h2)
    · refine .inr (.inr ⟨n.toNat, by omega, by omega, by omega, ?_⟩)
      have hlt : n.toNat < os.length := by omega
      cases hb : os[n.toNat]? with
      | none => rw [List.getElem?_eq_none_iff] at hb; omega
      | some b =>
        cases b
        · exact absurd ⟨by omega, by omega, hb⟩ h
        · rfl

/-- 'v[i:i+1]' of an own row. -/
theorem OwnG.slice_one {P : Program} {α : Type} {f : α → List Value} {k e base : Nat} (hk : ∀ a, (f a).length = k) {w : World} {g n cap : Nat} {l : List α} (h : OwnG f k e base w (.slice (some ⟨g, 0, none⟩) n cap) l) (hn : n = l.length) {t : TypeId} (ht : P.underlying t = some (.slice (P.elem t))) (hs : ∀ wx, (sizeOf (P.elem t)).run P wx = .ok k wx) {i : Nat} {a : α} (hi : l[i]? = some a) :
    ∃ vs, (∀ wx, (Instr.slice t (.slice (some ⟨g, 0, none⟩) n cap) (some (.int .i64 i)) (some (.int .i64 ((i : Int) + 1))) none).run P wx = .ok vs wx) ∧ RowG f w vs [a] := by
  obtain ⟨hlt, _⟩ := List.getElem?_eq_some_iff.1 hi
  obtain ⟨g', cap', hv, h2, h3, _⟩ := (show ∃ g' cap', (Value.slice (some ⟨g, 0, none⟩) n cap) = .slice (some ⟨g', 0, none⟩) l.length cap' ∧ l.length ≤ cap' ∧ cap' ≤ maxLen ∧ True by
    rcases h.2 with ⟨h', _⟩ | ⟨g', cap', cur, h', _, _, h2, h3, _⟩
    · simp at h'
    · exact ⟨g', cap', h', h2, h3, trivial⟩)
  simp only [Value.slice.injEq, Option.some.injEq, Addr.mk.injEq, and_true] at hv
  obtain ⟨rfl, _, rfl⟩ := hv
  have h1 : ¬ cap = i := by omega
  refine ⟨.slice (some ⟨g, i * k, none⟩) 1 (cap - i), fun wx => ?_, .inr ⟨⟨g, i * k, none⟩, cap - i, rfl, by simp; omega, by omega, fun j u hj => ?_⟩⟩
  · rw [run_slice_lh wx t (some ⟨g, 0, none⟩) n cap ht .i64 .i64 _ _ (by omega) (by omega) (by omega), hs]
    simp [Result.andThen, sliced, h1, add_at]
  · rw [add_at]
    refine h.at hk hi ?_
    simpa [gcells] using hj

section
variable {base p A : Nat} {w0 w w1 : World} {st : Lm.Ls} {vS vO vx : Value} {ss : List Lw} {os : List Bool}

theorem OM.runS (M : OM base p A w0 w st vS vO ss os) (b : Below w.heap.size w w1) {r : Lw} (row : RowG letc w1 vx [r]) (hr : Is .u8 w0 r.v r.bs) (hl : ss.length ≤ 2000) (ty : TypeId) :
    ∃ v' w', (Builtin.append_ #[45, 45] ty #[vS, vx]).run Try.prog w1 = .ok v' w' ∧ (OM base p A w0 w' st v' vO (ss ++ [r]) os ∧ ∃ a n c, v' = .slice a n c) := by
  have M0 := M
  obtain ⟨F, h⟩ := M
  have hz := h.size
  have hb := b.size
  obtain ⟨v', w', hr', ho, hg, hat⟩ := run_append_rows_at (P := Try.prog) (w := w1) 45 ty letc 3 40 letc_len (by decide) (by decide) (.agg #[.int .i64 0, .int .i64 0, .slice none 0 0]) rfl 31 base Try.underlying45 Try.info31 vS ss (h.sent.agree fun g hg => b.block g (h.sent.lt g hg).2) vx [r] row (letc_one _ fun x hx => by simp at hx; subst hx; exact hr.form) (by simp; omega) (by omega)
  obtain ⟨a, c, hv, _⟩ := ho.row.shape
  exact ⟨v', w', hr', M0.addS b hr ho hg hat, a, _, c, hv⟩

theorem Try.infoB : (Try.prog.info? 4).map (fun i => (i.zero, i.size, i.bytes)) = some (some (.bool false), 1, 1) := by kernel_rfl

theorem OM.runO (M : OM base p A w0 w st vS vO ss os) (b : Below w.heap.size w w1) {o : Bool} (row : RowG boolc w1 vx [o]) (hl : os.length ≤ 2000) (ty : TypeId) :
    ∃ v' w', (Builtin.append_ #[59, 59] ty #[vO, vx]).run Try.prog w1 = .ok v' w' ∧ (OM base p A w0 w' st vS v' ss (os ++ [o]) ∧ ∃ a n c, v' = .slice a n c) := by
  have M0 := M
  obtain ⟨F, h⟩ := M
  have hz := h.size
  have hb := b.size
  obtain ⟨v', w', hr', ho, hg, hat⟩ := run_append_rows_at (P := Try.prog) (w := w1) 59 ty boolc 1 1 boolc_len (by decide) (by decide) (.bool false) rfl 4 base Try.underlying59 Try.infoB vO os (h.over.agree fun g hg => b.block g (h.over.lt g hg).2) vx [o] row (boolc_one _) (by simp; omega) (by omega)
  obtain ⟨a, c, hv, _⟩ := ho.row.shape
  exact ⟨v', w', hr', M0.addO b ho hg hat, a, _, c, hv⟩
end

theorem Try.enters19 : ∀ args w, (callFunc 19 args).run Try.prog w = .ok (.enter 19 args) w := enters_of Try.func19 (by kernel_rfl) rfl

/-- What holds ahead of each call. -/
def OI (base : Nat) (w1 : World) (k : Nat) (vS vO : Value) (wr : World) : Prop := ∃ st ss os A, OM base base A w1 wr st vS vO ss os ∧ OR st (ss.map Lw.l) os ∧ st.last ≤ k

end Go.Proofs.Ytadfbmglbaebiaa
