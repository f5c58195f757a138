/- A refusal of the script's, as the law asks of it (layer 25): errors.As, errors.Is. -/
import Derived.Test.YtdlogcdpapknaaaGreatDoorSxm
import Derived.Test.YtdlogcdpapknaaaGreatDoorSxd
import Derived.Lib.IfaceEq
import Derived.Stop.IfaceNil
namespace Go.Proofs.YtdlogcdpapknaaaGreatDoor
open Go.RowKit Go.Extern.Stop Go.Stop Go.Extern
set_option linter.unusedVariables false
set_option maxRecDepth 100000

theorem Iss.typeOf (v : Value) (w : World) : (Extern.ReflectliteType.typeOf #[.iface 25 v]).run Tryz.prog w = .ok (.iface 144 (.agg #[.pointer (some ⟨8, 25, none⟩)])) w := by kernel_rfl
def Iss.cmp : Array Value → Sem Value := Extern.ReflectliteType.method fun t => do Go.Extern.Rtype.noPackHeld "Comparable" t; pure (.bool (← typeInfo t).comparable)
theorem Iss.comparable (w : World) : (Iss.cmp #[.agg #[.pointer (some ⟨8, 25, none⟩)]]).run Tryz.prog w = .ok (.bool true) w := by kernel_rfl
theorem Iss.methodComparable (v : Value) (w : World) : (Go.method 321 144 v "Comparable").run Tryz.prog w = .ok (151, v) w := by kernel_rfl
theorem Iss.noIs (v : Value) (xT : TypeId) (w : World) : (Instr.typeAssert (.iface 78 v) xT 156 true).run Tryz.prog w = .ok (.tuple #[.nilIface, .bool false]) w := run_typeAssert_lacksB Tryz.underlying156 (by kernel_rfl) (by kernel_rfl) v xT w
theorem Iss.hasUnwrap (v : Value) (xT : TypeId) (w : World) : (Instr.typeAssert (.iface 78 v) xT 151 true).run Tryz.prog w = .ok (.tuple #[.iface 78 v, .bool true]) w := run_typeAssert_hasB Tryz.underlying151 (by kernel_rfl) v xT w
theorem Iss.methodUnwrap (v : Value) (w : World) : (Go.method 321 78 v "Unwrap").run Tryz.prog w = .ok (145, v) w := by kernel_rfl

set_option maxHeartbeats 4000000 in
theorem is_line (b : Nat) (e : Int) (w : World) (h1 : w.cell? ⟨b, 1, none⟩ = some (.int .i64 e)) :
    Calls Tryz.prog 36 #[.iface 78 (.pointer (some ⟨b, 0, none⟩)), .iface 25 (.int .i64 e)] w fun E w' => E = .returned (.bool true) ∧ w' = w := by
  have h8 := @run_callFunc_extern Tryz.prog 72 _ Extern.ReflectliteType.typeOf Tryz.func72 (by kernel_rfl) (by kernel_rfl) (by kernel_rfl) (by kernel_rfl)
  have h32 := @run_callFunc_extern Tryz.prog 151 _ Iss.cmp Tryz.func151 (by kernel_rfl) (by kernel_rfl) (by kernel_rfl) (by kernel_rfl)
  have tT := Iss.typeOf
  have cT := Iss.comparable
  have mR := Iss.methodComparable
  have nW := Iss.noIs
  have uW := Iss.hasUnwrap
  have mU := Iss.methodUnwrap
  have heq : (binOp .eql 31 (.iface 25 (.int .i64 e)) (.iface 25 (.int .i64 e))).run Tryz.prog w = .ok (.bool true) w := by
    have := Lib.run_eql_iface_int (P := Tryz.prog) w (t := 31) (tx := 25) (k := .i64) (q := .i64) e e Tryz.underlying31 (by kernel_rfl) Tryz.underlying25
    simpa using this
  have hty := run_eql_iface_types (P := Tryz.prog) 78 25 (.pointer (some ⟨b, 0, none⟩)) (.int .i64 e) Tryz.underlying31 (by decide) w
  go_enter Tryz.func36, Tryz.ntmps36
  go_wp2
  refine wp_loop_rounds 2 ?_
  rw [rounds_succ]
  go_wp2
  rw [rounds_succ]
  go_wp2
  go_ret
  exact ⟨rfl, rfl⟩

/-- A refusal of a line for a reason, or none. -/
def ErrV (w : World) (v : Value) (line e : Int) : Prop := (e = 0 ∧ v = .nilIface) ∨ (e ≠ 0 ∧ ∃ b, v = .iface 78 (.pointer (some ⟨b, 0, none⟩)) ∧ w.heap[b]? = some (.cells #[.int .i64 line, .int .i64 e] 82 (0, 0)))
theorem ErrV.below {w w' : World} {v : Value} {line e : Int} (h : ErrV w v line e) (hb : Below w.heap.size w w') : ErrV w' v line e := by
  rcases h with h | ⟨h, b, h1, h2⟩
  · exact .inl h
  · exact .inr ⟨h, b, h1, (hb.block b (blk_lt h2)).trans h2⟩

set_option maxHeartbeats 1000000 in
theorem refused_any (line e : Int) (w : World) (he : e ≠ 0) : Calls Tryz.prog 26 #[.int .i64 line, .int .i64 e] w fun E w' => ∃ v, E = .returned v ∧ ErrV w' v line e ∧ Below w.heap.size w w' := by
  obtain ⟨W, hW, sz, b, hb⟩ := blk_step w #[.int .i64 line, .int .i64 e] 82
  have P := hide (show ∃ v, Ending.returned (.iface 78 (.pointer (some ⟨w.heap.size, 0, none⟩))) = .returned v ∧ ErrV W v line e ∧ Below w.heap.size w W from ⟨_, rfl, .inr ⟨he, _, rfl, hb⟩, b⟩)
  clear b hb he
  go_enter Tryz.func26, Tryz.ntmps26
  go_wp2
  go_ret
  exact P.out

set_option maxHeartbeats 4000000 in
theorem wrong_yes (v : Value) (line e : Int) (w : World) (hv : Vs w) (h : ErrV w v line e) : Calls Tryz.prog 13 #[v, .int .i64 line, .int .i64 e] w fun E w' => E = .returned (.bool true) ∧ Below w.heap.size w w' := by
  rcases h with ⟨rfl, rfl⟩ | ⟨he, b, rfl, hb⟩
  · go_enter Tryz.func13, Tryz.ntmps13
    go_wp2
    go_ret
    exact ⟨rfl, Below.refl _ _⟩
  · have hq : (e == 0) = false := by simpa using he
    obtain ⟨W, hW, sz, bW, blk⟩ := blk_step w #[.pointer none] 78
    have hlt := blk_lt hb
    have V1 := hv.below bW
    have AH := hide (as_hit ⟨b, 0, none⟩ ⟨w.heap.size, 0, none⟩ (.pointer none) W V1.ety (blk_cell blk 0 rfl) (blk_froz blk 0))
    clear he
    go_enter Tryz.func13, Tryz.ntmps13
    go_wp2_with fail
    refine AH.out.mono ?_
    rintro E w2 ⟨rfl, hw2⟩
    have c1 : W.heap.size < (W.alloc (.cells #[.pointer (some ⟨w.heap.size, 0, none⟩)] 80)).heap.size := by simp
    obtain ⟨X, hX⟩ : ∃ X, (((W.alloc (.cells #[.pointer (some ⟨w.heap.size, 0, none⟩)] 80)).alloc (.cells #[.pointer (some ⟨8, 80, none⟩), .pointer (some ⟨W.heap.size, 0, none⟩), .int .u64 150] 122)).alloc (.cells #[.pointer (some ⟨8, 80, none⟩), .pointer (some ⟨W.heap.size, 0, none⟩), .int .u64 150] 122)).alloc (.cells #[.pointer (some ⟨b, 0, none⟩)] 78) = X := ⟨_, rfl⟩
    rw [hX] at hw2
    have bX : Below W.heap.size W X := by
      rw [← hX]
      exact ((((Below.refl _ W).alloc (Nat.le_refl _) _).alloc (by simp) _).alloc (by simp; omega) _).alloc (by simp; omega) _
    have blkX := (bX.block w.heap.size (by omega)).trans blk
    have b2 : Below w.heap.size w w2 := by
      rw [hw2]
      exact (bW.trans (bX.mono (by omega))).setCell (p := ⟨w.heap.size, 0, none⟩) (Nat.le_refl _) _
    have blk2 : w2.heap[w.heap.size]? = some (.cells #[.pointer (some ⟨b, 0, none⟩)] 78 (0, 0)) := by
      rw [hw2, set_cells blkX]
      rfl
    have hb2 := (b2.block b hlt).trans hb
    have k0 := blk_cell blk2 0 rfl
    have e0 := blk_cell hb2 0 rfl
    have e1 := blk_cell hb2 1 rfl
    have IS := hide (is_line b e w2 e1)
    clear hw2 bX blkX blk2 hb2 hX AH V1 bW blk c1
    go_wp2_with fail
    refine IS.out.mono ?_
    rintro E w3 ⟨rfl, rfl⟩
    go_wp2
    go_ret
    exact ⟨rfl, b2⟩

end Go.Proofs.YtdlogcdpapknaaaGreatDoor
