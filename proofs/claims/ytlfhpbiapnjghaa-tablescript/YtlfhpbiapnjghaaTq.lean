/- maps.Equal of the program's table. -/
import Derived.Test.YtlfhpbiapnjghaaTa
import Derived.Laws.StructEq
import Derived.Maps.RangeWalk
import Derived.Maps.OwnSet
import Derived.Laws.IdiomRangeMap
import Derived.Deep.LoopGhost
import Derived.WalkKit
import Derived.Lib.SlMapEqual
namespace Go.Proofs.Ytlfhpbiapnjghaa
open Go.RowKit Go.Maps
open Bm (Ov)
set_option linter.unusedVariables false

theorem Try.guardE (op : BinOp) (x y : Operand) (xs ys : Array Value) (w : World) : (eqGuard op 59 x y (.agg xs) (.agg ys)).run Try.prog w = .ok () w := run_eqGuard_agg w op 59 x y xs ys (by kernel_rfl)

theorem Try.neqE (s r : ByteArray) (p q : Bool) (w : World) : (binOp .neq 59 (.agg #[.string s, .bool p]) (.agg #[.string r, .bool q])).run Try.prog w = .ok (.bool (!(s.data.toList == r.data.toList && p == q))) w := by
  rw [run_neq_struct, run_equalIn_agg w 9999 59 _ _ (by kernel_rfl) (by kernel_rfl)]
  unfold Program.fieldsOf
  rw [Try.underlying59]
  simp [Op.eqFields, go_sem, Try.underlying4, Try.underlying9]
  simp only [Lib.toList_data]
  by_cases h1 : p = q <;> by_cases h2 : s.data = r.data <;> simp [h1, h2]

set_option maxHeartbeats 4000000 in
set_option maxRecDepth 100000 in
theorem mapeq_any (b1 b2 n1 n2 : Nat) (D1 D2 : DataW Unit) (w : World) (h1 : w.ownsMap Try.prog 9 Ren b1 n1 D1) (h2 : w.ownsMap Try.prog 9 Ren b2 n2 D2) :
    Calls Try.prog 29 #[.map (some b1), .map (some b2)] w fun e w' => e = .returned (.bool (Lib.equalFuncD Tm.eqe D1 D2)) ∧ w.grownBy w' none := by
  have l1 := fun ty => h1.len Try.underlying50 ty
  have l2 := fun ty => h2.len Try.underlying50 ty
  obtain ⟨es1, rfl, hap, hkeys⟩ := h1.entries Try.keyed
  have hb2 := h2.lt
  generalize hres : Lib.equalFuncD Tm.eqe (.map es1) D2 = res
  have RES : Aside (Lib.equalFuncD Tm.eqe (.map es1) D2 = res) := hres
  clear hres
  by_cases hsz : Maps.size (.map es1 : DataW Unit) = Maps.size D2
  · go_enter Try.func29, Try.ntmps29
    go_wp2_with (first
      | (at_range; refine wpList_range_own _ rfl _ 50 rfl 9 59 Try.keyed Try.underlying50 Ren b1 n1 _ rfl h1 ?_; intro w0 hrg0 hg0 hs0)
      | go_in)
    go_frame
    go_loopw [18] (fun _ wr => ∃ (left : Lit → Bool) (cnt : Nat), wr.ranges Try.prog 9 Ren b1 w.heap.size n1 (.map es1) left cnt ∧ wr.ownsMap Try.prog 9 Ren b2 n2 D2 ∧ w.grownBy wr none ∧ Aside (GoodAt Tm.eqe es1 D2 left))
      (fun _ wr => wr.rangeLeft b1 w.heap.size)
    case atStart => exact ⟨_, _, hrg0, h2.kept hg0 (by simp), hg0, good_start hkeys D2⟩
    case round =>
      obtain ⟨left, cnt, hrg, h2r, hgw, G⟩ := hrel
      go_wp2_with (first
        | (at_next; refine wpList_next_ranges _ rfl _ rfl 9 Try.keyed Ren id id (fun key _ _ => ⟨key, rfl⟩) (fun v _ _ => ⟨v, rfl⟩) b1 w.heap.size n1 _ _ _ rfl hrg ?_ ?_)
        | go_in)
      · intro _ hl0
        go_wp2
        go_ret
        exact ⟨by rw [← RES.out, all_good G.out hl0 hsz]; rfl, hgw⟩
      · intro x c kl yd yp w1 cnt1 hkey hlx hv hat hrg1 hlt hg1 hs1 hen
        have hgw1 : w.grownBy w1 none := hgw.andThen hg1 (fun j hj => by cases hj; exact Or.inl (Nat.le_refl _))
        have h2w1 := h2r.kept hg1 (fun e => by have := Option.some.inj e; omega)
        have HAT : Aside (∀ zd, (DataW.map es1).atKey kl zd = yd) := hat
        clear hat
        obtain ⟨s1, q1, rfl, ey⟩ := ren_inv hv
        unfold env at hen ⊢
        obtain ⟨W2, hW2, sz2, b2w, B2⟩ := blk_step w1 #[.string s1, .bool q1] 59
        have hgA : w1.grownBy W2 none := by rw [← hW2]; exact World.grownBy_alloc _ _ _
        have h2W2 := h2w1.kept hgA (by simp)
        have x0 := blk_cell B2 0 rfl
        have x1 := blk_cell B2 1 rfl
        go_wp2_with (first
            | (at_lookup; refine wpList_lookup_own_ok _ rfl _ _ 50 rfl 9 59 Try.keyed Try.underlying50 Ren (Try.zeroE _) (.agg [.lit (.string []), .lit (.bool false)]) [] rfl b2 n2 D2 rfl h2W2 _ kl rfl hkey ?_)
            | go_in)
        intro v2 ps2 hv2
        obtain ⟨s2, q2, rfl, e2⟩ := ren_inv hv2
        unfold env
        obtain ⟨W3, hW3, sz3, b3w, B3⟩ := blk_step W2 #[.string s2, .bool q2] 59
        have y0 := blk_cell B3 0 rfl
        have y1 := blk_cell B3 1 rfl
        have z0 := (b3w.cell (p := ⟨w1.heap.size, 0, none⟩) (show w1.heap.size < W2.heap.size by omega)).trans x0
        have z1 := (b3w.cell (p := ⟨w1.heap.size, 1, none⟩) (show w1.heap.size < W2.heap.size by omega)).trans x1
        rw [hs1] at z0 z1
        rw [sz2] at y0 y1
        have hgB : W2.grownBy W3 none := by rw [← hW3]; exact World.grownBy_alloc _ _ _
        have hrg3 := (hrg1.kept hgA (by simp) (by simp)).kept hgB (by simp) (by simp)
        have h2W3 := h2W2.kept hgB (by simp)
        have hgw3 : w.grownBy W3 none := (hgw1.andThen hgA (fun j hj => by cases hj)).andThen hgB (fun j hj => by cases hj)
        have hlt3 : W3.rangeLeft b1 w.heap.size < wr.rangeLeft b1 w.heap.size := by rw [hrg3.left_eq, hrg.left_eq]; exact hlt
        have ey' : yd = .agg [.lit (.string s1.data.toList), .lit (.bool q1)] := congrArg Prod.fst ey
        have e2' : D2.atKey kl (.agg [.lit (.string []), .lit (.bool false)]) = .agg [.lit (.string s2.data.toList), .lit (.bool q2)] := congrArg Prod.fst e2
        have HGD : Hid (Maps.has D2 kl = true → Lib.goodD Tm.eqe D2 (kl, yd) = (s1.data.toList == s2.data.toList && q1 == q2)) := hide fun hh => by
          unfold Lib.goodD
          rw [hh, atKey_indep hh .nil (.agg [.lit (.string []), .lit (.bool false)]), e2', ey']
          rfl
        have H2 := hide h2W3
        have HR := hide hrg3
        have HG := hide hgw3
        have HL := hide hlt3
        clear hv hv2 ey e2 ey' e2' hrg1 hrg hgw hgw1 hgw3 h2W3 h2W2 h2w1 hrg3 hlt3 h2r hgA hgB B2 B3 b2w b3w hlt hg1 hs1 hen l1 l2
        cases hh : Maps.has D2 kl
        · have hbad : Lib.goodD Tm.eqe D2 (kl, yd) = false := by unfold Lib.goodD; rw [hh]; rfl
          go_wp2
          go_ret
          exact ⟨by rw [← RES.out, bad_false hap hkeys HAT.out hbad]; rfl, HG.out⟩
        · have hgd := HGD.out hh
          have hgu := @Try.guardE
          have hn := Try.neqE s1 s2 q1 q2
          obtain ⟨c, hc⟩ : ∃ c, (s1.data.toList == s2.data.toList && q1 == q2) = c := ⟨_, rfl⟩
          rw [hc] at hgd hn
          have HGD2 := hide hgd
          clear hc hgd
          cases c
          · go_wp2
            go_ret
            exact ⟨by rw [← RES.out, bad_false hap hkeys HAT.out HGD2.out]; rfl, HG.out⟩
          · go_wp2
            go_roundw
            case rel => exact ⟨_, cnt1, HR.out, H2.out, HG.out, good_step hap hkeys HAT.out G.out HGD2.out⟩
            case measure => exact HL.out
  · have hne : ¬ ((Maps.size (.map es1 : DataW Unit) : Int) = (Maps.size D2 : Int)) := fun e => hsz (by exact_mod_cast e)
    go_enter Try.func29, Try.ntmps29
    go_wp2
    go_ret
    exact ⟨by rw [← RES.out, sizes_false hsz]; rfl, World.grownBy.refl _ _⟩

end Go.Proofs.Ytlfhpbiapnjghaa
