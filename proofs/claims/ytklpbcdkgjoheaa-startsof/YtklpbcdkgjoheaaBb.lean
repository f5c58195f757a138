/- The contracts of slices.Clone and of batch's appendNumber, appendKey, appendOp, Append. -/
import Derived.Test.YtklpbcdkgjoheaaBa
import Derived.Lib.SliceRun
import Derived.Shelf.Abstract
namespace Go.Proofs.Ytklpbcdkgjoheaa
open Go.RowKit
set_option linter.unusedVariables false

/-- Blocks of another type than e are as they were. -/
def KeepT (e : TypeId) (w w' : World) : Prop := ∀ (g : Nat) (cs : Array Value) (t : TypeId) (fr : Nat × Nat), w.heap[g]? = some (.cells cs t fr) → t ≠ e → w'.heap[g]? = some (.cells cs t fr)

theorem KeepT.refl (e : TypeId) (w : World) : KeepT e w w := fun _ _ _ _ h _ => h
theorem KeepT.trans {e : TypeId} {w w1 w2 : World} (h : KeepT e w w1) (k : KeepT e w1 w2) : KeepT e w w2 := fun g cs t fr hg ht => k g cs t fr (h g cs t fr hg ht) ht
theorem KeepT.of_below {e : TypeId} {w w' : World} (h : Below w.heap.size w w') : KeepT e w w' := fun g cs t fr hg _ => (h.block g (blk_lt hg)).trans hg

theorem Own.block_type {k : IntKind} {e : TypeId} {base : Nat} {w : World} {v : Value} {zs : List Int} (h : Own k e base w v zs) {g : Nat} (hg : v.ownBlock = some g) : ∃ cs, w.heap[g]? = some (.cells cs e (0, 0)) := by
  rcases h.2.2 with ⟨rfl, _⟩ | ⟨g', cap, cur, rfl, _, hh, _⟩
  · simp [Value.ownBlock] at hg
  · simp [Value.ownBlock] at hg
    subst hg
    exact ⟨_, hh⟩

theorem KeepT.of_grown {k : IntKind} {e : TypeId} {base : Nat} {w w' : World} {v : Value} {zs : List Int} (h : Own k e base w v zs) (hg : w.grownBy w' v.ownBlock) : KeepT e w w' := by
  intro g cs t fr hc ht
  refine (hg.block g (blk_lt hc) fun e1 => ?_).trans hc
  obtain ⟨cs', h'⟩ := h.block_type e1.symm
  rw [h'] at hc
  simp at hc
  exact ht hc.2.1.symm

section
variable {P : Program} {w : World} {ops : Array Oper} {rest : List Oper} {o : Oper} {a : Act} {Q : Exit → Act → World → Prop}

/-- 'out = append(out, s...)', s a string; what else there is stays. -/
theorem wpList_append_str2 (hgd : o.guard = none) (sl x : Operand) (t u : TypeId)
    (ho : o.op = .call { callee := .builtin .append, args := #[sl, x], argTypes := #[t, u] })
    (e : TypeId) (base : Nat) (ht : P.underlying t = some (.slice e)) (hu : P.underlying u = some .string) (hinfo : (P.info? e).map (fun i => (i.zero, i.size, i.bytes)) = some (some (.int .u8 0), 1, 1))
    (v : Value) (zs : List Int) (hs : a.eval sl = v) (hown : Own .u8 e base w v zs) (s : ByteArray) (hx : a.eval x = .string s)
    (hlen : zs.length + s.size ≤ 140737488355328) (hbase : base ≤ w.heap.size)
    (h : ∀ v' w', Own .u8 e base w' v' (zs ++ Om.ints s.data.toList) → Below base w w' → KeepT e w w' → wpList P ops Q rest (a.put o.dst v') w') : wpList P ops Q (o :: rest) a w := by
  obtain ⟨i, hi, hz, hsize, hb⟩ := info_parts hinfo
  refine Lib.wpList_append_own_string w hgd sl x t u ho base e i ht hu hi hz hsize hb v zs.length _ hs hown.2 s hx (by unfold maxLen; omega) hlen hbase fun v' w' h1 h2 _ => ?_
  refine h v' w' ⟨?_, ?_⟩ ((Below.refl _ _).grown h2 hbase fun k' hk => (hown.2.lt k' hk).1) (KeepT.of_grown hown h2)
  · intro z hz
    rcases List.mem_append.1 hz with hz | hz
    · exact hown.1 z hz
    · unfold Om.ints at hz
      obtain ⟨c, _, rfl⟩ := List.mem_map.1 hz
      have := c.toNat_lt
      exact wf_u8 (by omega) (by omega)
  · have e1 : zs.length + s.size = (zs ++ Om.ints s.data.toList).length := by rw [List.length_append, Om.ints_len, Lib.size_eq]
    rw [e1] at h1
    simpa [Lib.strCells_eq, Lib.byteCells, Om.ints, List.map_append, Function.comp_def] using h1
end

theorem drop_take_len (k : ByteArray) (n : Nat) : List.take (k.size - n) (List.drop n k.data.toList) = List.drop n k.data.toList := by
  rw [List.take_of_length_le]
  rw [List.length_drop, ← Lib.size_eq]
  exact Nat.le_refl _

/-- A call of a Go function inside a region that draws its order. -/
theorem call_step {P : Program} {ops : Array Oper} {o : Oper} {a : Act} {w : World} {K : Act → World → Prop} {Q : Exit → Act → World → Prop} {E : Prop} (hgd : o.guard = none) (f : FuncId) (args : Array Operand) (ts : Array TypeId)
    (ho : o.op = .call { callee := .value (.func f), args := args, argTypes := ts }) (hent : ∀ args w, (callFunc f args).run P w = .ok (.enter f args) w) (vs : Array Value) (hvs : args.map a.eval = vs)
    {R : Value → World → Prop} (hc : Calls P f vs w fun e w' => ∃ v, e = .returned v ∧ R v w') (h : ∀ v w', R v w' → K (a.put o.dst v) w') :
    if Region.wanted o (yielded ops a.tmps) = true then Oper.wp P o a w K Q else E := by
  have hw : Region.wanted o (yielded ops a.tmps) = true := by simp [Region.wanted, hgd]
  rw [if_pos hw]
  unfold Oper.wp
  simp only [execOp, ho, resolve, invoke, Sem.run_bind, hvs]
  simp only [Act.eval, Deferred.ofValue, Sem.run_pure, Result.andThen_ok, Array.empty_append, hent]
  rw [Oper.upon_enter]
  refine hc.mono ?_
  rintro e w' ⟨v, rfl, hr⟩
  exact h v w' hr

theorem encO_del {ah : List UInt8} {k u : ByteArray} {n : Nat} (hn : Bm.com ah k.data.toList = n) : Bm.encO ah ⟨false, k, u⟩ = [0] ++ (Vm.enc n ++ (Vm.enc (k.size - n) ++ Om.ints (k.data.toList.drop n))) := by
  unfold Bm.encO Bm.pre4 Bm.Ov.bit Bm.Ov.kl
  simp only [hn, List.length_drop, ← Lib.size_eq]
  rw [if_neg (by simp), if_neg (by simp), Vm.enc_lo (by omega)]
  simp

theorem encO_put {ah : List UInt8} {k u : ByteArray} {n : Nat} (hn : Bm.com ah k.data.toList = n) : Bm.encO ah ⟨true, k, u⟩ = [1] ++ (Vm.enc n ++ (Vm.enc (k.size - n) ++ Om.ints (k.data.toList.drop n))) ++ Vm.enc u.size ++ Om.ints u.data.toList := by
  unfold Bm.encO Bm.pre4 Bm.Ov.bit Bm.Ov.kl Bm.Ov.vl Om.cnt
  simp only [hn, List.length_drop, ← Lib.size_eq]
  rw [if_pos trivial, if_pos trivial, Vm.enc_lo (by omega)]
  simp

theorem lst_take {l : List Bm.Ov} {k : Nat} {o : Bm.Ov} (ho : l[k]? = some o) : l.take (k + 1) = l.take k ++ [o] := by
  obtain ⟨hk, rfl⟩ := List.getElem?_eq_some_iff.1 ho
  exact List.take_succ_eq_append_getElem hk

theorem encL_take {l : List Bm.Ov} {k : Nat} {o : Bm.Ov} (ho : l[k]? = some o) : Bm.encL [] (l.take (k + 1)) = Bm.encL [] (l.take k) ++ Bm.encO (Bm.lst [] (l.take k)) o := by
  rw [lst_take ho, Bm.encL_snoc]

theorem encL_small {l : List Bm.Ov} (hc : Bm.chkL l = 0) (k : Nat) : (Bm.encL [] (l.take k)).length ≤ 420 := by
  obtain ⟨h1, h2, h3⟩ := Bm.chkL_zero hc
  have h4 : ∀ o ∈ l.take k, Bm.Ov.c o = 0 := fun o ho => h3 o (List.mem_of_mem_take ho)
  have := Bm.encL_le [] (l.take k) h4
  have := Bm.sum_le h4
  have : (l.take k).length ≤ 8 := by rw [List.length_take]; omega
  omega

theorem OwnO.keptg {e base g : Nat} {w w' : World} {v : Value} {l : List Bm.Ov} (h : OwnO e base w v l) (hg : w.grownBy w' (some g)) (hb : g < base) : OwnO e base w' v l := by
  refine h.kept hg ?_
  cases hv : v.ownBlock with
  | none => exact .inl rfl
  | some b =>
    refine .inr fun e => ?_
    have := h.block b hv
    simp at e
    omega

end Go.Proofs.Ytklpbcdkgjoheaa
