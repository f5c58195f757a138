/- The program's link: All, and what its iterator yields. -/
import Derived.Test.YtadfbmglbaebiaaLf
import Derived.RangeFuncNested
import Derived.RangeFuncBound
import Derived.RangeFuncCalls
import Derived.RangeFuncLeaves
import Derived.Shelf.RegionOpen
import Derived.WalkKit
import Derived.OwnWalkIn
import Derived.TacticsInMore
import Derived.LoopNIn
import Derived.LoopIn
namespace Go.Proofs.Ytadfbmglbaebiaa
open Go.RowKit Go.Shelf
set_option linter.unusedVariables false
attribute [local go_sem] Oper.semAt_some

theorem Try.infoI : (Try.prog.info? 3).map (fun i => (i.zero, i.size, i.bytes)) = some (some (.int .i64 0), 1, 8) := by kernel_rfl

theorem nums_wf {z : Int} (h0 : 1 ≤ z) (h1 : z < 9223372036854775808) : (Lit.int .i64 z).wf = true := by
  simp [Lit.wf, IntKind.min, IntKind.max, IntKind.signed, IntKind.bits]
  omega

set_option maxRecDepth 100000 in
set_option maxHeartbeats 2000000 in
theorem nums_any (p : Nat) (F : Nat → Prop) (w : World) (st : Lm.Ls) (h : Lk false p F w st) (hok : Lm.Ok st) (hlast : st.last ≤ 9223372036854775807) :
    Calls Try.prog 42 #[.pointer (some ⟨p, 0, none⟩)] w fun E w' => ∃ v, E = .returned v ∧ Own .i64 3 w.heap.size w' v (st.fl.map Lm.Lt.n) ∧ Below w.heap.size w w' := by
  have HM := hide (made_any p F w st h)
  obtain ⟨vr, rs, h⟩ := h
  have c2 := h.p2
  have hlr := h.len
  have hl5 := hok.len
  have HROW := hide fun (h0 : 0 < rs.length) => h.full h0
  have HFORM := hide fun r hr => (h.raw r hr).1.form
  have HE : Hid (∀ r ∈ rs, (Lit.int .i64 r.n).wf = true) := hide fun r hr => by
    obtain ⟨_, h1, h2, _⟩ := hok.each r.l (by rw [← h.fl]; exact List.mem_map_of_mem hr)
    have e : r.l.n = r.n := rfl
    exact nums_wf (by omega) (by omega)
  have hnm : st.fl.map Lm.Lt.n = rs.map Lw.n := by rw [← h.fl, List.map_map]; rfl
  rw [hnm]
  obtain ⟨ao, cap, hvr, _, _⟩ := h.row.row.shape
  rw [hvr] at c2
  have hLn : rs.length ≤ 512 := by omega
  clear h hok hlr hl5 hnm
  go_enter Try.func42, Try.ntmps42
  go_wp2_with fail
  refine HM.out.mono ?_
  rintro E w1 ⟨rfl, rfl⟩
  go_wp2
  go_loopw [3, 14] (fun nv iv wr => ∃ k : Nat, k ≤ rs.length ∧ iv = .int .i64 k ∧ Hid (Own .i64 3 w.heap.size wr nv ((rs.map Lw.n).take k)) ∧ Below w.heap.size w wr) (fun _ iv _ => rs.length - (intOf iv).toNat)
  case atStart => exact ⟨0, by omega, rfl, hide (by simpa using Own.nil _ _ _ _), Below.refl _ _⟩
  case round =>
    obtain ⟨k, hk, rfl, HT, bel⟩ := hrel
    by_cases hlt : k < rs.length
    · obtain ⟨b, off, cq, hvx, _, _, hb, hcell⟩ := HROW.out (by omega)
      rw [hvr] at hvx
      simp only [Value.slice.injEq, true_and] at hvx
      obtain ⟨rfl, rfl⟩ := hvx
      obtain ⟨r, hr⟩ : ∃ r, rs[k]? = some r := ⟨rs[k], by rw [List.getElem?_eq_getElem]⟩
      obtain ⟨q0, q1, q2⟩ := hcell k r hr
      have e0 := (bel.cell (p := ⟨b, off + k * 3, none⟩) hb).trans q0
      have e1 := (bel.cell (p := ⟨b, off + k * 3 + 1, none⟩) hb).trans q1
      have e2 := (bel.cell (p := ⟨b, off + k * 3 + 2, none⟩) hb).trans q2
      obtain ⟨ar, nr, cr, hrv⟩ := HFORM.out r (List.mem_of_getElem? hr)
      obtain ⟨V, hV, hV2, szV, belV, bV, x0, x1, x2⟩ := new_three wr 31 (.int .i64 0) (.int .i64 0) (.slice none 0 0) (.int .i64 r.n) (.int .i64 r.to) r.v
      obtain ⟨w5, hw5, sz5, bel5, own5⟩ := own_step .i64 3 V #[.int .i64 r.n] 1 [r.n] rfl rfl (by simp [maxLen]) (by simpa using HE.out r (List.mem_of_getElem? hr))
      have sz := bel.size
      have belw5 : Below wr.heap.size wr w5 := belV.trans (bel5.mono (by omega))
      have X : Hid (∀ nv, Own .i64 3 w.heap.size wr nv ((rs.map Lw.n).take k) → ∀ ty, ∃ v' w', (Builtin.append_ #[67, 67] ty #[nv, .slice (some ⟨V.heap.size, 0, none⟩) 1 1]).run Try.prog w5 = .ok v' w' ∧ (Own .i64 3 w.heap.size w' v' ((rs.map Lw.n).take (k + 1)) ∧ Below w.heap.size w w')) := hide fun nv hnv ty => by
        have h1 := hnv.below belw5
        obtain ⟨v', w', hr', ho, hg, _⟩ := run_append_is_at (P := Try.prog) (w := w5) 67 ty .i64 3 w.heap.size 8 Try.underlying67 Try.infoI (by decide) nv _ h1 _ _ own5.is (by simp; omega) (by omega)
        refine ⟨v', w', hr', ?_, ((bel.trans (belw5.mono sz)).grown hg (by omega) fun j hj => (h1.block j hj).1)⟩
        rw [List.take_succ_eq_append_getElem (by rw [List.length_map]; exact hlt), List.getElem_map]
        rw [List.getElem?_eq_getElem hlt] at hr
        simp at hr
        rw [hr]
        exact ho
      have hk0 : (0 : Int) ≤ (k : Int) := by omega
      have hkl : (k : Int) < rs.length := by omega
      rw [hrv] at e2 hV hV2 x2
      clear hcell hr q0 q1 q2 hrv own5 bV szV sz5
      go_wp2_with (at_builtin; refine wpList_append_at rfl (.tmp 18) (.tmp 21) 67 rfl _ _ rfl rfl (X.out _ HT.out) ?_)
      intro v7 w7 own7 bel7
      have J := hide own7
      clear own7
      go_wp2
      go_roundw
      case rel => exact ⟨k + 1, by omega, by go_num, J, bel7⟩
      case measure => simp [intOf]; omega
    · have hkl : ¬ (k : Int) < rs.length := by omega
      have HT2 := HT.out
      rw [List.take_of_length_le (by rw [List.length_map]; omega)] at HT2
      clear HT
      go_wp2
      go_ret
      exact ⟨_, rfl, HT2, bel⟩

/-- An iterator over numbers: the block B of the list's variable, the list. -/
def Seq (B : Nat) (base : Nat) (w : World) (zs : List Int) : Prop := base ≤ B ∧ ∃ v, w.heap[B]? = some (.cells #[v] 67 (0, 0)) ∧ Own .i64 3 base w v zs

/-- The blocks of an iterator. -/
def SeqB (B : Nat) (w : World) (g : Nat) : Prop := g = B ∨ ∃ v, w.cell? ⟨B, 0, none⟩ = some v ∧ v.ownBlock = some g

theorem Seq.agree {B base : Nat} {w w' : World} {zs : List Int} (h : Seq B base w zs) (ha : ∀ g, base ≤ g → g < w.heap.size → SeqB B w g → w'.heap[g]? = w.heap[g]?) : Seq B base w' zs := by
  obtain ⟨h0, v, h1, h2⟩ := h
  refine ⟨h0, v, (ha B h0 (blk_lt h1) (.inl rfl)).trans h1, h2.agree fun b hb => ha b (h2.block b hb).1 (h2.block b hb).2 (.inr ⟨v, blk_cell h1 0 rfl, hb⟩)⟩

theorem Seq.below {B base : Nat} {w w' : World} {zs : List Int} (h : Seq B base w zs) (hb : Below w.heap.size w w') : Seq B base w' zs := h.agree fun g _ hg _ => hb.block g hg

set_option maxHeartbeats 1000000 in
theorem all_any (p : Nat) (F : Nat → Prop) (w : World) (st : Lm.Ls) (h : Lk false p F w st) (hok : Lm.Ok st) (hlast : st.last ≤ 9223372036854775807) :
    Calls Try.prog 25 #[.pointer (some ⟨p, 0, none⟩)] w fun E w' => ∃ B, E = .returned (.func (.func 43) #[] #[.pointer (some ⟨B, 0, none⟩)]) ∧ Seq B w.heap.size w' (st.fl.map Lm.Lt.n) ∧ Below w.heap.size w w' := by
  have HN := hide (nums_any p F w st h hok hlast)
  clear h hok
  go_enter Try.func25, Try.ntmps25
  go_wp2_with fail
  refine HN.out.mono ?_
  rintro E w1 ⟨v, rfl, own1, bel1⟩
  obtain ⟨w2, hw2, sz2, bel2, hB⟩ := blk_step w1 #[v] 67
  obtain ⟨av, nv, cv, hv⟩ := own1.is.form
  have J : Hid (Seq w1.heap.size w.heap.size w2 (st.fl.map Lm.Lt.n)) := hide ⟨bel1.size, v, hB, own1.below bel2⟩
  have bel02 := bel1.trans (bel2.mono bel1.size)
  have hw3 : (w1.alloc (.cells #[.slice none 0 0] 67)).setCell ⟨w1.heap.size, 0, none⟩ v = w2 := by
    rw [← hw2]
    simp [go_sem]
  rw [hv] at hw3 hw2 ⊢
  clear own1 hB
  go_wp2
  go_ret
  exact ⟨_, rfl, J.out, bel02⟩

end Go.Proofs.Ytadfbmglbaebiaa
