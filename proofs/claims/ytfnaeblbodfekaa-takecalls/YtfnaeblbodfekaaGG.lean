/- Texts of one layer, one behind the other. -/
import Derived.Test.YtfnaeblbodfekaaGF
import Derived.Test.YtfnaeblbodfekaaG9
/- The contract of read (the program's): an ack, and no kind. -/
namespace Go.Proofs.Ytfnaeblbodfekaa
open Go.RowKit
set_option linter.unusedVariables false

/-- What read comes to. -/
def ReadR (w : World) (bs : List Int) (E : Ending) (w' : World) : Prop :=
  ∃ (m : Mw) (a : Nat) (bad : Bool), E = .returned (.tuple #[mv m, .int .i64 a, .int .i64 (bad5 bad)]) ∧ Hid (OwnM w.heap.size w' m ∧ FitM m ∧ Rdd bs m.m a bad ∧ Below w.heap.size w w')

theorem nat64 {k : Nat} (h : k ≤ 1048576) : In64 (k : Int) := ⟨by omega, by omega⟩

theorem fit_nums {k e r n f p : Nat} {vs vc : Value} {ss : List Sm.S} {cs : List Cw} (h1 : k ≤ 3) (h2 : e ≤ 1048576) (h3 : r ≤ 3) (h4 : n ≤ 1048576) (h5 : f ≤ 1048576) (h6 : p ≤ 1048576) (h7 : ss.length ≤ 140737488355328) (h8 : FitC cs) (h9 : cs.length ≤ 140737488355328) : FitM ⟨k, e, r, n, vs, ss, f, p, vc, cs⟩ :=
  ⟨nat64 (by omega), nat64 (by omega), by simp, by simp; omega, nat64 (by omega), nat64 (by omega), nat64 (by omega), h7, h8, h9⟩

/-- Eight cells of a message's block, written again; the place's and the error's, too. -/
structure Sam8 (w : World) (B : Nat) (m : Mw) (a : Nat) (e : Int) : Prop where
  s0 : w.setCell ⟨B + 1, 0, none⟩ (.int .i64 m.k) = w
  s1 : w.setCell ⟨B + 1, 1, none⟩ (.int .i64 m.e) = w
  s2 : w.setCell ⟨B + 1, 2, none⟩ (.int .u8 m.r) = w
  s3 : w.setCell ⟨B + 1, 3, none⟩ (.int .i64 m.n) = w
  s4 : w.setCell ⟨B + 1, 4, none⟩ m.vs = w
  s5 : w.setCell ⟨B + 1, 5, none⟩ (.int .i64 m.f) = w
  s6 : w.setCell ⟨B + 1, 6, none⟩ (.int .i64 m.p) = w
  s7 : w.setCell ⟨B + 1, 7, none⟩ m.vc = w
  sa : w.setCell ⟨B + 2, 0, none⟩ (.int .i64 a) = w
  se : w.setCell ⟨B + 3, 0, none⟩ (.int .i64 e) = w

end Go.Proofs.Ytfnaeblbodfekaa

/- The contract of read (the program's): a hello. -/
namespace Go.Proofs.Ytfnaeblbodfekaa
open Go.RowKit
set_option linter.unusedVariables false

/-- A call of a function value inside a region that draws its order. -/
theorem fn_at {P : Program} {ops : Array Oper} {o : Oper} {a : Act} {w : World} {K : Act → World → Prop} {Q : Exit → Act → World → Prop} {E : Prop} (hgd : o.guard = none) (x : Operand) (f : FuncId) (args : Array Operand) (ts : Array TypeId) (cap : Array Value)
    (ho : o.op = .call { callee := .value x, args := args, argTypes := ts }) (hx : a.eval x = .func (.func f) #[] cap) (hent : ∀ args w, (callFunc f args).run P w = .ok (.enter f args) w) (vs : Array Value) (hvs : args.map a.eval = vs)
    {R : Value → World → Prop} (hc : Calls P f (vs ++ cap) w fun e w' => ∃ v, e = .returned v ∧ R v w') (h : ∀ v w', R v w' → K (a.put o.dst v) w') :
    if Region.wanted o (yielded ops a.tmps) = true then Oper.wp P o a w K Q else E := by
  have hw : Region.wanted o (yielded ops a.tmps) = true := by simp [Region.wanted, hgd]
  rw [if_pos hw]
  unfold Oper.wp
  simp only [execOp, ho, resolve, invoke, Sem.run_bind, hvs, hx]
  simp only [Deferred.ofValue, Sem.run_pure, Result.andThen_ok, Array.empty_append, hent]
  rw [Oper.upon_enter]
  refine hc.mono ?_
  rintro e w' ⟨v, rfl, hr⟩
  exact h v w' hr

/-- A hello so far. -/
def hm1 (e r n : Int) (vs : Value) (ss : List Sm.S) : Mw := ⟨1, e, r, n, vs, ss, 0, 0, .slice none 0 0, []⟩

theorem own_hm {base : Nat} {w : World} {e r n : Int} {vs : Value} {ss : List Sm.S} (h : OwnS base w vs ss) : OwnM base w (hm1 e r n vs ss) := ⟨h, OwnR.nil _ _ _, fun c hc => by simp [hm1] at hc, fun c hc => by simp [hm1] at hc, fun i j c d _ hc => by simp [hm1] at hc⟩

end Go.Proofs.Ytfnaeblbodfekaa

/- The contract of read (the program's): a ship; read as a whole. -/
namespace Go.Proofs.Ytfnaeblbodfekaa
open Go.RowKit
set_option linter.unusedVariables false

/-- A ship so far. -/
def sm2 (e f p : Int) (vc : Value) (cs : List Cw) : Mw := ⟨2, e, 0, 0, .slice none 0 0, [], f, p, vc, cs⟩

theorem own_sm {b : Nat} {w : World} {e f p : Int} {vc : Value} {cs : List Cw} (h : ShS b w vc cs) : OwnM b w (sm2 e f p vc cs) := ⟨OwnG.nil _ _ _ _ _, h.c, h.o, h.i, h.ap⟩

end Go.Proofs.Ytfnaeblbodfekaa

/- The contract of Decode (the program's). -/
namespace Go.Proofs.Ytfnaeblbodfekaa
open Go.RowKit
set_option linter.unusedVariables false

/-- What Decode comes to. -/
def DecR (w : World) (m' : Mm.Msg) (g : Int) (E : Ending) (w' : World) : Prop :=
  ∃ m : Mw, E = .returned (.tuple #[mv m, .int .i64 g]) ∧ Hid (m.m = m' ∧ OwnM w.heap.size w' m ∧ FitM m ∧ Below w.heap.size w w')

theorem dec_no {w w' : World} (hb : Below w.heap.size w w') : Hid (mno.m = Mm.no ∧ OwnM w.heap.size w' mno ∧ FitM mno ∧ Below w.heap.size w w') := hide ⟨rfl, OwnM.no _ _, FitM.no, hb⟩

end Go.Proofs.Ytfnaeblbodfekaa
