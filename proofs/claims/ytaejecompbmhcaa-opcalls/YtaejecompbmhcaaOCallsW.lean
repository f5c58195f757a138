/- The walk of the law OpCalls. -/
import Derived.Test.YtaejecompbmhcaaOlive
import Derived.Test.YtaejecompbmhcaaTxtr
import Derived.Test.YtaejecompbmhcaaOpbr
import Derived.Test.YtaejecompbmhcaaApart
import Derived.Deep.RegionHeld3
namespace Go.Proofs.Ytaejecompbmhcaa
open Go.RowKit
set_option linter.unusedVariables false

/-- A call of a Go function inside a region that draws its order, by a contract that tells its answer and keeps what lies below. -/
theorem step_call_b {P : Program} {ops : Array Oper} {o : Oper} {a : Act} {w : World} {K : Act → World → Prop} {Q : Exit → Act → World → Prop} {E : Prop} (hw : Region.wanted o (yielded ops a.tmps) = true) (f : FuncId) (args : Array Operand) (ts : Array TypeId)
    (ho : o.op = .call { callee := .value (.func f), args := args, argTypes := ts }) (hent : ∀ args w, (callFunc f args).run P w = .ok (.enter f args) w) (vs : Array Value) (hvs : args.map a.eval = vs)
    {v : Value} {base : Nat} (hc : Calls P f vs w fun e w' => e = .returned v ∧ Below base w w') (h : ∀ w', Below base w w' → K (a.put o.dst v) w') :
    if Region.wanted o (yielded ops a.tmps) = true then Oper.wp P o a w K Q else E := by
  rw [if_pos hw]
  unfold Oper.wp
  simp only [execOp, ho, resolve, invoke, Sem.run_bind, hvs]
  simp only [Act.eval, Deferred.ofValue, Sem.run_pure, Result.andThen_ok, Array.empty_append, hent]
  rw [Oper.upon_enter]
  refine hc.mono ?_
  rintro e w' ⟨rfl, hr⟩
  exact h w' hr

theorem Try.enters15 : ∀ args w, (callFunc 15 args).run Try.prog w = .ok (.enter 15 args) w := enters_of Try.func15 (by kernel_rfl) rfl
theorem Try.enters10 : ∀ args w, (callFunc 10 args).run Try.prog w = .ok (.enter 10 args) w := enters_of Try.func10 (by kernel_rfl) rfl
theorem Try.enters20 : ∀ args w, (callFunc 20 args).run Try.prog w = .ok (.enter 20 args) w := enters_of Try.func20 (by kernel_rfl) rfl
theorem Try.enters12 : ∀ args w, (callFunc 12 args).run Try.prog w = .ok (.enter 12 args) w := enters_of Try.func12 (by kernel_rfl) rfl
theorem Try.enters21 : ∀ args w, (callFunc 21 args).run Try.prog w = .ok (.enter 21 args) w := enters_of Try.func21 (by kernel_rfl) rfl
theorem Try.enters22 : ∀ args w, (callFunc 22 args).run Try.prog w = .ok (.enter 22 args) w := enters_of Try.func22 (by kernel_rfl) rfl

set_option maxRecDepth 100000 in
set_option maxHeartbeats 8000000 in
theorem opCalls_walk (vb : Value) (bs : List Int) (p : Bool) (k v : ByteArray) (w : World) (hb : Is .u8 w vb bs) (hl : bs.length * 1 ≤ 140737488351232) (hk : k.size ≤ 140737488351232) (hv : v.size ≤ 140737488351232) :
    Calls Try.prog 4 #[vb, opv p k v] w fun E w' => E = .returned (.bool true) ∧ Below w.heap.size w w' := by
  rw [Nat.mul_one] at hl
  obtain ⟨ao, cap0, rfl, _, _⟩ := hb.shape
  obtain ⟨w0, hw0, sz0, bel0, blk0⟩ := blk_step w #[.bool p, .string k, .string v] 23
  have hb0 := hb.below bel0
  have hal := Om.appd_le bs p k.data.toList v.data.toList
  unfold opv
  go_enter Try.func4, Try.ntmps4
  go_wp2_with fail
  refine (lent_any _ bs _ hb0 hl).mono ?_
  rintro E w1 ⟨v1, rfl, own1, bel1⟩
  have sz1 := bel1.size
  have is1 := own1.is
  obtain ⟨b, cap, rfl, hcap, hcm, hb1, hb2, isf⟩ := own1.front (by simp)
  have hcap' : bs.length ≤ cap := by simp at hcap; omega
  have blk1 := (bel1.block w.heap.size (by omega)).trans blk0
  have c0 : w1.cell? ⟨w.heap.size, 0, none⟩ = some (.bool p) := blk_cell blk1 0 rfl
  have c1 : w1.cell? ⟨w.heap.size, 1, none⟩ = some (.string k) := blk_cell blk1 1 rfl
  have c2 : w1.cell? ⟨w.heap.size, 2, none⟩ = some (.string v) := blk_cell blk1 2 rfl
  go_wp2_with fail
  go_region_with (go_at_call 9; refine (oapp_any _ bs p k v _ (isf.drewN 1) (by omega) hk hv).mono ?_; rintro E w2 ⟨va, rfl, owna, bel2'⟩; have bel2 : Below w1.heap.size w1 w2 := ((Below.refl _ _).drew).trans bel2')
  have sz2 := bel2.size
  have blk2 := (bel2.block w.heap.size (by omega)).trans blk1
  have d0 : w2.cell? ⟨w.heap.size, 0, none⟩ = some (.bool p) := blk_cell blk2 0 rfl
  have d1 : w2.cell? ⟨w.heap.size, 1, none⟩ = some (.string k) := blk_cell blk2 1 rfl
  have d2 : w2.cell? ⟨w.heap.size, 2, none⟩ = some (.string v) := blk_cell blk2 2 rfl
  have isf2 := isf.below bel2
  clear c0 c1 c2 bel2' isf
  go_wp2_with fail
  go_region_with (go_at_call 9; refine (oapp_any _ bs p k v _ (isf2.drewN 1) (by omega) hk hv).mono ?_; rintro E w3 ⟨vd, rfl, ownd, bel3'⟩; have bel3 : Below w2.heap.size w2 w3 := ((Below.refl _ _).drew).trans bel3')
  have sz3 := bel3.size
  have blk3 := (bel3.block w.heap.size (by omega)).trans blk2
  have c0 : w3.cell? ⟨w.heap.size, 0, none⟩ = some (.bool p) := blk_cell blk3 0 rfl
  have c1 : w3.cell? ⟨w.heap.size, 1, none⟩ = some (.string k) := blk_cell blk3 1 rfl
  have c2 : w3.cell? ⟨w.heap.size, 2, none⟩ = some (.string v) := blk_cell blk3 2 rfl
  have bel03 : Below w.heap.size w w3 := ((bel0.trans (bel1.mono (by omega))).trans (bel2.mono (by omega))).trans (bel3.mono (by omega))
  have hb3 := hb.below bel03
  clear d0 d1 d2 bel3' isf2
  go_wp2_with fail
  refine (oappR_any _ bs p k v _ hb3 hl hk hv).mono ?_
  rintro E w4 ⟨vc, rfl, ownc, bel4⟩
  have sz4 := bel4.size
  have blk4 := (bel4.block w.heap.size (by omega)).trans blk3
  have d0 : w4.cell? ⟨w.heap.size, 0, none⟩ = some (.bool p) := blk_cell blk4 0 rfl
  have d1 : w4.cell? ⟨w.heap.size, 1, none⟩ = some (.string k) := blk_cell blk4 1 rfl
  have d2 : w4.cell? ⟨w.heap.size, 2, none⟩ = some (.string v) := blk_cell blk4 2 rfl
  clear c0 c1 c2
  go_wp2_with fail
  refine (text_any p k v _ hk hv).mono ?_
  rintro E w5 ⟨t1, rfl, ht1, bel5⟩
  have sz5 := bel5.size
  have blk5 := (bel5.block w.heap.size (by omega)).trans blk4
  have c0 : w5.cell? ⟨w.heap.size, 0, none⟩ = some (.bool p) := blk_cell blk5 0 rfl
  have c1 : w5.cell? ⟨w.heap.size, 1, none⟩ = some (.string k) := blk_cell blk5 1 rfl
  have c2 : w5.cell? ⟨w.heap.size, 2, none⟩ = some (.string v) := blk_cell blk5 2 rfl
  have HT1 := hide ht1
  clear d0 d1 d2 ht1
  go_wp2_with fail
  refine (textR_any p k v _ hk hv).mono ?_
  rintro E w6 ⟨t2, rfl, ht2, bel6⟩
  obtain rfl : t1 = t2 := ba_ext (HT1.out.trans ht2.symm)
  have sz6 := bel6.size
  have blk6 := (bel6.block w.heap.size (by omega)).trans blk5
  have bel36 : Below w3.heap.size w3 w6 := (bel4.trans (bel5.mono (by omega))).trans (bel6.mono (by omega))
  have bel46 : Below w4.heap.size w4 w6 := bel5.trans (bel6.mono (by omega))
  have own1' := (own1.below bel2).below (bel3.trans (bel36.mono (by omega)))
  have owna' := (owna.below bel3).below bel36
  have ownd' := ownd.below bel36
  have ownc' := ownc.below bel46
  have hb6 := hb.below (bel03.trans (bel36.mono (by omega)))
  have belB : Below w.heap.size w w6 := bel03.trans (bel36.mono (by omega))
  have HA := hide owna.block
  obtain ⟨aa, na, ca, hva⟩ := owna'.is.form
  obtain ⟨ad, nd, cd, hvd⟩ := ownd'.is.form
  subst hva hvd
  have d0 : w6.cell? ⟨w.heap.size, 0, none⟩ = some (.bool p) := blk_cell blk6 0 rfl
  have d1 : w6.cell? ⟨w.heap.size, 1, none⟩ = some (.string k) := blk_cell blk6 1 rfl
  have d2 : w6.cell? ⟨w.heap.size, 2, none⟩ = some (.string v) := blk_cell blk6 2 rfl
  have hR6 : w.heap.size < w6.heap.size := by omega
  clear c0 c1 c2 HT1 ht2 blk0 blk1 blk2 blk3 blk4 blk5 blk6 bel0 bel1 bel2 bel3 bel4 bel5 bel6 bel03 bel36 bel46 own1 owna ownd ownc hb0 hb3 hw0 is1
  generalize hch : Om.chk p k.data.toList v.data.toList = ch at *
  have HCH := hide hch
  clear hch
  generalize hap : Om.appd bs p k.data.toList v.data.toList = ap at *
  clear hap
  rw [show ([201, 202, 203] : List Int).length = 3 from rfl] at own1'
  have x10 : ∀ w', Calls Try.prog 10 #[.agg #[.bool p, .string k, .string v]] w' fun e w'' => e = .returned (.int .i64 ch) ∧ Below w'.heap.size w' w'' := fun w' => by rw [← HCH.out]; exact check_any p k v w' hk hv
  have x20 : ∀ w', Calls Try.prog 20 #[.agg #[.bool p, .string k, .string v]] w' fun e w'' => e = .returned (.int .i64 ch) ∧ Below w'.heap.size w' w'' := fun w' => by rw [← HCH.out]; exact checkR_any p k v w' hk hv
  have X10 := hide x10
  have X20 := hide x20
  clear x10 x20 HCH
  go_wp2_with fail
  go_region_held3 (fun w' => w'.cell? ⟨w.heap.size, 0, none⟩ = some (.bool p) ∧ w'.cell? ⟨w.heap.size, 1, none⟩ = some (.string k) ∧ w'.cell? ⟨w.heap.size, 2, none⟩ = some (.string v)) (first | exact ⟨d0, d1, d2⟩ | exact ⟨a0, a1, a2⟩ | exact ⟨b0, b1, b2⟩ | exact ⟨c0, c1, c2⟩ | exact ⟨e0, e1, e2⟩ | exact ⟨f0, f1, f2⟩ | exact ⟨g0, g1, g2⟩ | exact ⟨h0, h1, h2⟩ | go_keep)
    (first
    | (go_at_call 15; refine (lives_any _).mono ?_; rintro E wa ⟨rfl, bela'⟩; have bela : Below w6.heap.size w6 wa := ((Below.refl _ _).drew).trans bela'; have a0 := (bela.cell (p := ⟨w.heap.size, 0, none⟩) hR6).trans d0; have a1 := (bela.cell (p := ⟨w.heap.size, 1, none⟩) hR6).trans d1; have a2 := (bela.cell (p := ⟨w.heap.size, 2, none⟩) hR6).trans d2; clear bela')
    | (go_at_call 10; refine (X10.out _).mono ?_; rintro E wb ⟨rfl, belb'⟩; have belb : Below w6.heap.size w6 wb := bela.trans (belb'.mono bela.size); have b0 := (belb.cell (p := ⟨w.heap.size, 0, none⟩) hR6).trans d0; have b1 := (belb.cell (p := ⟨w.heap.size, 1, none⟩) hR6).trans d1; have b2 := (belb.cell (p := ⟨w.heap.size, 2, none⟩) hR6).trans d2; clear belb')
    | (go_at_call 20; refine (X20.out _).mono ?_; rintro E wc ⟨rfl, belc'⟩; have belc : Below w6.heap.size w6 wc := belb.trans (belc'.mono belb.size); have c0 := (belc.cell (p := ⟨w.heap.size, 0, none⟩) hR6).trans d0; have c1 := (belc.cell (p := ⟨w.heap.size, 1, none⟩) hR6).trans d1; have c2 := (belc.cell (p := ⟨w.heap.size, 2, none⟩) hR6).trans d2; clear belc')
    | (go_at_call 12; refine (same_yes _ _ ap _ _ (owna'.below belc).is (ownc'.below belc).is (by omega) rfl).mono ?_; rintro E wd ⟨rfl, beld'⟩; have beld : Below w6.heap.size w6 wd := belc.trans (beld'.mono belc.size); have e0 := (beld.cell (p := ⟨w.heap.size, 0, none⟩) hR6).trans d0; have e1 := (beld.cell (p := ⟨w.heap.size, 1, none⟩) hR6).trans d1; have e2 := (beld.cell (p := ⟨w.heap.size, 2, none⟩) hR6).trans d2; clear beld')
    | (go_at_call 21; refine (kept_yes _ _ bs _ _ (own1'.below beld).is (hb6.below beld) hl rfl).mono ?_; rintro E we ⟨rfl, bele'⟩; have bele : Below w6.heap.size w6 we := beld.trans (bele'.mono beld.size); have f0 := (bele.cell (p := ⟨w.heap.size, 0, none⟩) hR6).trans d0; have f1 := (bele.cell (p := ⟨w.heap.size, 1, none⟩) hR6).trans d1; have f2 := (bele.cell (p := ⟨w.heap.size, 2, none⟩) hR6).trans d2; clear bele')
    | (go_at_call 22; have hse := bele.size; have L := lists_three (s1 := w1.heap.size) (s2 := w2.heap.size) (owna'.below bele) (ownd'.below bele) (own1'.below bele) (by intro x hx; simp only [Value.ownBlock, Option.some.injEq] at hx; omega) (fun x hx => (HA.out x hx).2) sz1 sz2 (by omega) (by omega) (by simp; omega); refine (apart_yes 3 _ 3 w0.heap.size _ _ _ (by omega) (by omega) (by simp; omega) L (by omega)).mono ?_; rintro E wf ⟨rfl, belf⟩; have belg : Below w0.heap.size w6 wf := ((bele.mono (by omega)).alloc (by omega) _).trans belf; have g0 := (belg.cell (p := ⟨w.heap.size, 0, none⟩) (show w.heap.size < w0.heap.size by omega)).trans d0; have g1 := (belg.cell (p := ⟨w.heap.size, 1, none⟩) (show w.heap.size < w0.heap.size by omega)).trans d1; have g2 := (belg.cell (p := ⟨w.heap.size, 2, none⟩) (show w.heap.size < w0.heap.size by omega)).trans d2; clear L belf))
  go_wp2
  go_ret
  exact ⟨rfl, belB.trans (belg.mono (by omega))⟩

end Go.Proofs.Ytaejecompbmhcaa
