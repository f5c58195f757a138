/- The contract of the chapter's lists of starts ('of'), and of the two examples that open each law ('lives'). -/
import Derived.Test.YtklpbcdkgjoheaaSk
import Derived.Test.YtklpbcdkgjoheaaSf
import Derived.Deep.RegionLaw
namespace Go.Proofs.Ytklpbcdkgjoheaa
open Go.RowKit
set_option linter.unusedVariables false

/-- 'append(out, xs...)' of starts inside a region that draws its order. -/
theorem step_append_sts {ops : Array Oper} {o : Oper} {a : Act} {w : World} {K : Act → World → Prop} {Q : Exit → Act → World → Prop} {E : Prop} (hgd : o.guard = none) (s x : Operand)
    (ho : o.op = .call { callee := .builtin .append, args := #[s, x], argTypes := #[22, 22] })
    (base : Nat) (v : Value) (l : List Sm.S) (hs : a.eval s = v) (hown : OwnS base w v l) (vx : Value) (m : List Sm.S) (hx : a.eval x = vx) (his : RowS w vx m)
    (hlen : (l.length + m.length) * 16 ≤ 140737488355328) (hbase : base ≤ w.heap.size)
    (h : ∀ v' w', OwnS base w' v' (l ++ m) → Below base w w' → w.grownBy w' v.ownBlock → K (a.put o.dst v') w') :
    if Region.wanted o (yielded ops a.tmps) = true then Oper.wp Try.prog o a w K Q else E :=
  step_append_rows stc 2 16 stc_len (by decide) (by decide) (.agg #[.int .i64 0, .int .i64 0]) rfl hgd s x 22 ho 58 base Try.underlying22 Try.info58 v l hs hown vx m hx his (stc_one m) hlen hbase
    fun v' w' h1 h2 => h v' w' h1 ((Below.refl _ _).grown h2 hbase fun k hk => (OwnG.lt hown k hk).1) h2

/-- Numbers two by two. -/
def prs : List Int → List Sm.S
  | a :: b :: r => (a, b) :: prs r
  | _ => []

theorem prs_at : ∀ (zs : List Int) (k : Nat), 2 * k + 1 < zs.length → (prs zs)[k]? = some (zs.getD (2 * k) 0, zs.getD (2 * k + 1) 0)
  | [], _, h => by simp at h
  | [_], _, h => by simp at h
  | a :: b :: r, 0, _ => rfl
  | a :: b :: r, k + 1, h => by
    have := prs_at r k (by simp at h; omega)
    rw [prs, List.getElem?_cons_succ, this, show 2 * (k + 1) = 2 * k + 1 + 1 by omega]
    rfl

theorem prs_len : ∀ (zs : List Int), (prs zs).length = zs.length / 2
  | [] => rfl
  | [_] => by simp [prs]
  | a :: b :: r => by
    have := prs_len r
    simp [prs, this]
    omega

set_option maxHeartbeats 1000000 in
theorem of_list (vz : Value) (zs : List Int) (m : Nat) (w : World) (h : Is .i64 w vz zs) (hm : zs.length = 2 * m) (hm0 : 0 < m) (hms : m ≤ 1000) :
    Calls Try.prog 8 #[vz] w fun E w' => ∃ v, E = .returned v ∧ OwnS w.heap.size w' v (prs zs) ∧ Below w.heap.size w w' := by
  obtain ⟨b, off, cap, rfl, _, _, hB, hc⟩ := h.full (by omega)
  have HC := hide hc
  have HP := hide (prs_at zs)
  have HE : Hid ((prs zs).take m = prs zs) := hide (List.take_of_length_le (by rw [prs_len]; omega))
  generalize hn : zs.length = n at *
  have HN := hide hm
  have hnb : n ≤ 2000 := by omega
  clear h hc hn hm
  go_enter Try.func8, Try.ntmps8
  go_wp2
  go_loopw [3, 4] (fun ov iv wr => ∃ k : Nat, k ≤ m ∧ iv = .int .i64 ((2 * k : Nat) : Int) ∧ OwnS w.heap.size wr ov ((prs zs).take k) ∧ Below w.heap.size w wr) (fun _ iv _ => n - (intOf iv).toNat)
  case atStart => exact ⟨0, by omega, rfl, OwnG.nil _ _ _ _ _, Below.refl _ _⟩
  case round =>
    obtain ⟨k, hk, rfl, own, bel⟩ := hrel
    have sz := bel.size
    obtain ⟨j, hj⟩ : ∃ j, 2 * k = j := ⟨_, rfl⟩
    rw [hj]
    have hHN := HN.out
    by_cases hlt : k < m
    · have g0 := (bel.cell (p := ⟨b, off + j, none⟩) hB).trans (HC.out j (by omega))
      have g1 := (bel.cell (p := ⟨b, off + (j + 1), none⟩) hB).trans (HC.out (j + 1) (by omega))
      have hp := HP.out k (by omega)
      rw [hj] at hp
      have hlt1 : (j : Int) + 1 < n := by omega
      have hlt0 : (j : Int) < n := by omega
      have hj0 : (0 : Int) ≤ (j : Int) + 1 := by omega
      have htn : ((j : Int) + 1).toNat = j + 1 := by omega
      have hwr : IntKind.i64.wrap ((j : Int) + 1) = (j : Int) + 1 := wrap_i64_small _ (by omega) (by omega)
      have hlk : ((prs zs).take k).length ≤ 1000 := by rw [List.length_take]; omega
      have HT : Hid ((prs zs).take k ++ [(zs.getD j 0, zs.getD (j + 1) 0)] = (prs zs).take (k + 1)) := hide (by rw [List.take_add_one, hp]; rfl)
      have HL : Hid (((prs zs).take k).length + [((zs.getD j 0, zs.getD (j + 1) 0) : Sm.S)].length ≤ 2000) := hide (by simp; omega)
      have HLL : Hid ((((prs zs).take k).length + [((zs.getD j 0, zs.getD (j + 1) 0) : Sm.S)].length) * 16 ≤ 140737488355328) := hide (by have := HL.out; omega)
      generalize (prs zs).take k = u at *
      generalize zs.getD j 0 = x at *
      generalize zs.getD (j + 1) 0 = y at *
      obtain ⟨w1, hw1, sz1, bel1, own1⟩ := sts_step wr #[.int .i64 x, .int .i64 y] 1 [(x, y)] rfl rfl (by simp [maxLen])
      have i1 : Hid (∀ q, OwnS w.heap.size (w1.drewN q) _ u) := hide fun q => (ownS_below own bel1).agree fun _ _ => rfl
      have i2 : Hid (∀ q, RowS (w1.drewN q) (.slice (some ⟨wr.heap.size, 0, none⟩) 1 1) [(x, y)]) := hide fun q => rowS_drewN own1.row q
      have HB : Hid (∀ q, w.heap.size ≤ (w1.drewN q).heap.size) := hide fun q => by show _ ≤ w1.heap.size; omega
      have belA : Hid (∀ q, Below w.heap.size w (w1.drewN q)) := hide fun q => below_drewN (bel.trans (bel1.mono sz)) q
      have HJ := hide hj
      clear hp hlk own own1 bel1 bel hHN hj
      go_wp2
      go_region_law (refine step_append_sts rfl (.tmp 12) (.tmp 23) rfl w.heap.size _ u (by simp [Act.eval]) (i1.out 1) _ [(x, y)] (by simp [Act.eval]) (i2.out 1) HLL.out (HB.out 1) ?_; intro v2 w2 own2 bel2 _)
      all_goals
        rw [HT.out] at own2
        have bel3 := (belA.out 1).trans bel2
        clear HT HL HLL i1 i2 HB belA bel2
        go_wp2
        go_roundw
        case rel => exact ⟨k + 1, by omega, by rw [show ((2 * (k + 1) : Nat) : Int) = (j : Int) + 2 by have := HJ.out; omega], own2, bel3⟩
        case measure => simp [intOf]; omega
    · have hlt1 : ¬ (j : Int) + 1 < n := by omega
      have hjb : j ≤ 2000 := by omega
      obtain rfl : k = m := by omega
      rw [HE.out] at own
      clear hHN hj
      go_wp2
      go_ret
      exact ⟨_, rfl, own, bel⟩

end Go.Proofs.Ytklpbcdkgjoheaa
