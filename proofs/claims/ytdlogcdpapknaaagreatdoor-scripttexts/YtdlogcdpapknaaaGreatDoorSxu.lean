/- The law's sames, at acts that are the same (layer 25). -/
import Derived.Test.YtdlogcdpapknaaaGreatDoorZS
import Derived.Test.YtdlogcdpapknaaaGreatDoorSxv
import Derived.BigQuiet
import Derived.Deep.RegionLaw
import Derived.Deep.RegionHeld3
import Derived.Deep.QuietTactic
namespace Go.Proofs.YtdlogcdpapknaaaGreatDoor
open Go.RowKit
set_option linter.unusedVariables false
set_option maxRecDepth 100000

section
variable {P : Program} {Q : Exit → Act → World → Prop} {ops : Array Oper} {o : Oper} {a : Act} {w : World}
/-- A call inside a region that draws its order. -/
theorem call_sx {K : Act → World → Prop} {E : Prop} (hgd : o.guard = none) (f : FuncId) (args : Array Operand) (ts : Array TypeId)
    (ho : o.op = .call { callee := .value (.func f), args := args, argTypes := ts }) (hent : ∀ args w, (callFunc f args).run P w = .ok (.enter f args) w) (vs : Array Value) (hvs : args.map a.eval = vs)
    {R : Value → World → Prop} (hc : Calls P f vs w fun e w' => ∃ v, e = .returned v ∧ R v w') (h : ∀ v w', R v w' → K (a.put o.dst v) w') :
    if Region.wanted o (yielded ops a.tmps) = true then Oper.wp P o a w K Q else E := by
  have hw : Region.wanted o (yielded ops a.tmps) = true := by simp [Region.wanted, hgd]
  rw [if_pos hw]
  unfold Oper.wp
  simp only [execOp, ho, resolve, invoke, Sem.run_bind, hvs]
  simp only [Act.eval, Deferred.ofValue, Sem.run_pure, Result.andThen_ok, Array.empty_append, hent]
  rw [Oper.upon_enter]
  refine hc.mono ?_
  rintro e w' ⟨v, rfl, hr⟩
  exact h v w' hr
end

theorem Tryz.enters8 : ∀ args w, (callFunc 8 args).run Tryz.prog w = .ok (.enter 8 args) w := enters_of Tryz.func8 (by kernel_rfl) rfl

set_option maxHeartbeats 2000000 in
theorem sames_yes (va vb : Value) (l m : List Aw) (w : World) (ha : IsAs w va l) (hb : IsAs w vb m) (he : l.map Aw.a = m.map Aw.a) (hl : ∀ x ∈ l, x.a.ops.length ≤ 140737488355328) (hll : l.length ≤ 140737488355328) : Calls Tryz.prog 20 #[va, vb] w fun E w' => E = .returned (.bool true) ∧ Below w.heap.size w w' := by
  have hlen : l.length = m.length := by simpa using congrArg List.length he
  have AT := hide (fun W (hW : Below w.heap.size w W) => (ha.below hW).at)
  have BT := hide (fun W (hW : Below w.heap.size w W) => (hb.below hW).at)
  obtain ⟨oa, oc, rfl, _, _⟩ := ha.1.shape
  obtain ⟨pa, pc, rfl, _, _⟩ := hb.1.shape
  obtain ⟨n, hn⟩ : ∃ n, l.length = n := ⟨_, rfl⟩
  have hm : m.length = n := by omega
  have HL := hide hn
  have HM := hide hm
  rw [hn] at hll
  rw [hn, hm]
  clear ha hb hn hm hlen
  go_enter Tryz.func20, Tryz.ntmps20
  go_wp2
  go_loopw [5] (fun iv wr => ∃ i : Nat, i ≤ n ∧ iv = .int .i64 i ∧ Below w.heap.size w wr) (fun iv _ => n - (intOf iv).toNat)
  case atStart => exact ⟨0, by omega, rfl, Below.refl _ _⟩
  case round =>
    obtain ⟨i, hi, rfl, bel⟩ := hrel
    by_cases hlt : i < n
    · have hlt' : (i : Int) < n := by omega
      obtain ⟨b, off, cap, hv, hc⟩ := AT.out wr bel (by have := HL.out; omega)
      obtain ⟨b2, off2, cap2, hv2, hc2⟩ := BT.out wr bel (by have := HM.out; omega)
      rw [HL.out] at hv
      rw [HM.out] at hv2
      cases hv
      cases hv2
      obtain ⟨x, hx⟩ : ∃ x, l[i]? = some x := ⟨l[i]'(by have := HL.out; omega), List.getElem?_eq_getElem _⟩
      obtain ⟨y, hy⟩ : ∃ y, m[i]? = some y := ⟨m[i]'(by have := HM.out; omega), List.getElem?_eq_getElem _⟩
      have hxy : x.a = y.a := by
        have h1 : (l.map Aw.a)[i]? = some x.a := by rw [List.getElem?_map, hx]; rfl
        rw [he, List.getElem?_map, hy] at h1
        exact (Option.some.inj h1).symm
      obtain ⟨⟨p0, p1, p2, p3, p4, p5⟩, ix⟩ := hc i x hx
      obtain ⟨⟨q0, q1, q2, q3, q4, q5⟩, iy⟩ := hc2 i y hy
      rw [← hxy] at q0 q1 q2 q3 q4 iy
      clear hxy
      obtain ⟨xo, xc, hxv, _, _⟩ := ix.shape
      obtain ⟨yo, yc, hyv, _, _⟩ := iy.shape
      rw [hxv] at p5 ix
      rw [hyv] at q5 iy
      have hB1 : b < wr.heap.size := World.block_lt_of_cell? _ _ p0
      have hB2 : b2 < wr.heap.size := World.block_lt_of_cell? _ _ q0
      have szr := bel.size
      have SY : Hid (Calls Tryz.prog 8 #[.agg #[.int .i64 x.a.k, .int .i64 x.a.u, .int .i64 x.a.n, .int .i64 x.a.t, .string x.a.key, .slice xo x.a.ops.length xc], .agg #[.int .i64 x.a.k, .int .i64 x.a.u, .int .i64 x.a.n, .int .i64 x.a.t, .string x.a.key, .slice yo x.a.ops.length yc]] wr.drew fun E w' => ∃ v, E = .returned v ∧ v = .bool true ∧ Below wr.drew.heap.size wr.drew w') := hide ((same_yes x.a _ _ (wr.drewN 1) (ix.drewN 1) (iy.drewN 1) (hl x (List.mem_of_getElem? hx))).mono fun E w' h => ⟨_, h.1, rfl, h.2⟩)
      clear hc hc2 ix iy hxv hyv
      go_wp2_with fail
      go_region_law (refine call_sx rfl 8 #[.tmp 20, .tmp 24] #[24, 24] rfl Tryz.enters8 #[.agg #[.int .i64 x.a.k, .int .i64 x.a.u, .int .i64 x.a.n, .int .i64 x.a.t, .string x.a.key, .slice xo x.a.ops.length xc], .agg #[.int .i64 x.a.k, .int .i64 x.a.u, .int .i64 x.a.n, .int .i64 x.a.t, .string x.a.key, .slice yo x.a.ops.length yc]] (by first | rfl | (simp [Act.eval]; done) | (simp [Act.eval, Act.put]; done)) SY.out ?_; rintro _ w2 ⟨rfl, b2'⟩; have b4 : Below wr.heap.size wr w2 := ((Below.refl _ _).drew).trans b2'; clear b2')
      all_goals
        have b3 := bel.trans (b4.mono (by omega))
        clear p0 p1 p2 p3 p4 p5 q0 q1 q2 q3 q4 q5 b4
        go_wp2
        go_roundw
        case rel => exact ⟨i + 1, by omega, by go_num, b3⟩
        case measure => simp [intOf]; omega
    · have hlt' : ¬ (i : Int) < n := by omega
      go_wp2
      go_ret
      exact ⟨rfl, bel⟩

end Go.Proofs.YtdlogcdpapknaaaGreatDoor
