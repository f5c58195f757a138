/- Texts of one layer, one behind the other. -/
import Derived.Test.YtofbnkeglhhnlaaGF
import Derived.Test.YtofbnkeglhhnlaaG9
import Derived.Test.YtofbnkeglhhnlaaG4
import Derived.Test.YtofbnkeglhhnlaaG5
import Derived.Test.YtofbnkeglhhnlaaRows
import Derived.ProofKit
import Derived.OpenShut
import Derived.ShutString
import Derived.ChangeOld
import Derived.Below
import Derived.SizedLaws
import Derived.Test.YtofbnkeglhhnlaaGI
/- Law 16: a txn and a list of ops beside it. -/
namespace Go.Proofs.Ytofbnkeglhhnlaa
open Go.RowKit
open Bm (Ov)
set_option linter.unusedVariables false

/-- A txn, and a list of the statement's own. -/
structure BM (w0 w : World) (p : Nat) (F : Nat → Prop) (s : Tx.St) (v : Value) (l : List Ov) : Prop where
  pw : PW w0 w p F s
  row : OwnO 36 w0.heap.size w v l
  ap : ∀ g, v.ownBlock = some g → ¬ F g

section
variable {w0 w w' : World} {s s' : Tx.St} {p : Nat} {F : Nat → Prop} {v : Value} {l : List Ov}

theorem BM.below (h : BM w0 w p F s v l) (hb : Below w.heap.size w w') : BM w0 w' p F s v l := ⟨h.pw.below hb, h.row.below hb, h.ap⟩

theorem BM.step (h : BM w0 w p F s v l) (hs : PzS p F w w' s') : ∃ F', BM w0 w' p F' s' v l ∧ Out F w w' := by
  obtain ⟨F', k, o, hsub⟩ := hs
  have hF : ∀ g, F' g → w0.heap.size ≤ g := fun g hg => by
    rcases hsub g hg with e | e
    · exact h.pw.fb g e
    · exact Nat.le_trans h.pw.bel.size e
  refine ⟨F', ⟨⟨k, hF, h.pw.bel.trans (o.below h.pw.fb h.pw.bel.size)⟩, row_agree h.row fun g hg => o.block g (h.row.block g hg).2 (h.ap g hg), fun g hg e => ?_⟩, o⟩
  rcases hsub g e with e | e
  · exact h.ap g hg e
  · have := (h.row.block g hg).2
    omega

/-- One op more. -/
theorem BM.push (h : BM w0 w p F s v l) (o : Ov) (hl : l.length ≤ 1000) :
    ∃ V, w.alloc (.cells #[.bool o.p, .string o.k, .string o.v] 36) = V ∧ ∀ ty, ∃ v2 w2, (Builtin.append_ #[31, 31] ty #[v, .slice (some ⟨w.heap.size, 0, none⟩) 1 1]).run Try.prog V = .ok v2 w2 ∧ BM w0 w2 p F s v2 (l ++ [o]) ∧ ∃ a n k, v2 = .slice a n k := by
  obtain ⟨V, hV, szV, belV, ownV⟩ := ops_step 36 w #[.bool o.p, .string o.k, .string o.v] 1 [o] rfl rfl (by simp [maxLen])
  have hq := h.below belV
  refine ⟨V, hV, fun ty => ?_⟩
  obtain ⟨v2, w2, hr, own2, gr2, at2⟩ := run_append_ops_at (P := Try.prog) (w := V) 31 ty 36 w0.heap.size Try.underlying31 Try.info36 v l hq.row _ [o] ownV.is (by simp; omega) hq.pw.bel.size
  have o2 : Out (fun g => v.ownBlock = some g) V w2 := Out.of_grown gr2 fun g hg => hg
  refine ⟨v2, w2, hr, ⟨⟨hq.pw.ps.out o2 fun g hg e => hq.ap g e hg, hq.pw.fb, hq.pw.bel.trans (o2.below (fun g hg => (hq.row.block g hg).1) hq.pw.bel.size)⟩, own2, fun g hg e => ?_⟩, ?_⟩
  · rcases at2 with a | a
    · exact hq.ap g (a ▸ hg) e
    · rw [a] at hg
      simp at hg
      have := hq.pw.ps.lt g e
      omega
  · obtain ⟨a1, k1, h1, _⟩ := own2.is.shape
    exact ⟨a1, _, k1, h1⟩

/-- The list is cut. -/
theorem BM.cut (h : BM w0 w p F s v l) (k : Nat) (hk : k ≤ l.length) :
    ∃ v2, (∀ wx, (Instr.slice 31 v none (some (.int .i64 k)) none).run Try.prog wx = .ok v2 wx) ∧ BM w0 w p F s v2 (l.take k) ∧ ∃ a n c, v2 = .slice a n c := by
  obtain ⟨ao, cap, rfl, hcap, hm⟩ := h.row.is.shape
  refine ⟨.slice ao k cap, fun wx => ?_, ⟨h.pw, ?_, fun g hg => h.ap g (by cases ao <;> exact hg)⟩, _, _, _, rfl⟩
  · rw [run_slice_h wx 31 ao l.length cap Try.elemO .i64 _ (by omega) (by omega), Try.sizeO]
    simp only [Result.andThen, sliced]
    cases ao <;> simp [Addr.add]
  · have hr := h.row
    unfold OwnO at hr ⊢
    rw [List.length_take, Nat.min_eq_left hk, ocells_take]
    cases ao with
    | none =>
      rcases hr.2 with ⟨hv, e⟩ | ⟨g, cap', cur, hv, _⟩
      · simp at hv
        obtain ⟨_, rfl⟩ := hv
        have hk0 : k = 0 := by omega
        subst hk0
        simpa using World.ownsRow_nil _ _ _ _
      · simp at hv
    | some ad =>
      rcases hr.2 with ⟨hv, e⟩ | ⟨g, cap', cur, hv, _⟩
      · simp at hv
      · simp only [Value.slice.injEq, Option.some.injEq, true_and] at hv
        obtain ⟨rfl, rfl⟩ := hv
        exact own_cut hr k hk

end

end Go.Proofs.Ytofbnkeglhhnlaa

/- TxnBatch: the walk. -/
namespace Go.Proofs.Ytofbnkeglhhnlaa
open Go.RowKit
open Bm (Ov)
set_option linter.unusedVariables false

theorem Tx.len_on (l : List Ov) : Tx.len ⟨l, false⟩ = l.length := rfl

set_option maxRecDepth 20000 in
set_option maxHeartbeats 16000000 in
theorem txnBatch_walk (v : Value) (l : List Tc) (w : World) (h : IsT w v l) (hf : FitT l) (hl : l.length * 48 ≤ 140737488351232) :
    Calls Try.prog 6 #[v] w fun e w' => e = .returned (.bool true) ∧ Below w.heap.size w w' := by
  have HQ := hide h
  have HFQ := hide hf
  obtain ⟨qa, qc, hv, _, _⟩ := h.1.shape
  subst hv
  obtain ⟨lq, hlq⟩ : ∃ lq, l = lq := ⟨_, rfl⟩
  subst hlq
  clear h hf
  go_enter Try.func6, Try.ntmps6
  go_wp2_with fail
  refine (tlives_any w).mono ?_
  rintro E w1 ⟨rfl, b1⟩
  have B1 := hide b1
  clear b1
  by_cases hl60 : 60 < l.length
  · have hl60' : (60 : Int) < l.length := by omega
    go_wp2
    go_ret
    exact ⟨rfl, B1.out⟩
  have hl60' : ¬ (60 : Int) < l.length := by omega
  go_wp2_with fail
  refine (zbegin_any w1).mono ?_
  rintro E w2 ⟨p, F, rfl, h2, fb2, b2⟩
  have T0 : Hid (BM w1 w2 p F ⟨[], false⟩ (.slice none 0 0) []) := hide ⟨⟨h2, fb2, b2⟩, OwnO.nil _ _ _, fun g hg => by simp [Value.ownBlock] at hg⟩
  clear h2 fb2 b2
  go_wp2
  go_loopw [4, 5] (fun ov iv wr => ∃ (j : Nat) (F : Nat → Prop) (m : List Ov) (va : Option Addr) (vn vk : Nat), ov = .slice va vn vk ∧ iv = .int .i64 j ∧ j ≤ l.length ∧ Hid (BM w1 wr p F ⟨m, false⟩ (.slice va vn vk) m)) (fun _ iv _ => l.length - (intOf iv).toNat)
  case atStart => exact ⟨0, F, [], none, 0, 0, rfl, rfl, by omega, T0⟩
  case round =>
    obtain ⟨j, F1, l', va, vn, vk, rfl, rfl, hj, HP⟩ := hrel
    clear T0
    by_cases hlt : j < l.length
    · obtain ⟨qb, qo, qk, hvx, _, _, _, hcell⟩ := ((HQ.out.below B1.out).below HP.out.pw.bel).full (by omega)
      simp only [Value.slice.injEq, true_and] at hvx
      obtain ⟨rfl, rfl⟩ := hvx
      obtain ⟨a, ha⟩ : ∃ a, l[j]? = some a := ⟨l[j], by rw [List.getElem?_eq_getElem]⟩
      obtain ⟨d0, d1, d2, d3⟩ := hcell j a ha
      have hm := List.mem_of_getElem? ha
      have hak := (HQ.out.2 a hm).1
      obtain ⟨hfk, hfv⟩ := HFQ.out a hm
      have hlt' : (j : Int) < l.length := by omega
      have hj0 : (0 : Int) ≤ (j : Int) := by omega
      have h8 : l'.length ≤ 8 := HP.out.pw.ps.ok.1
      obtain ⟨V, hV, hV2, szV, bV, BV, x0, x1, x2, x3⟩ := new_four wr 43 (.int .i64 0) (.string ⟨#[]⟩) (.string ⟨#[]⟩) (.int .i64 0) (.int .i64 a.k) (.string a.key) (.string a.val) (.int .i64 a.n)
      have nR : ¬ F1 wr.heap.size := fun e => by have := HP.out.pw.ps.lt _ e; omega
      obtain ⟨R, hR⟩ : ∃ R, wr.heap.size = R := ⟨_, rfl⟩
      rw [hR] at nR BV x0 x1 x2 x3 hV
      have HV := hide (HP.out.below bV)
      have HB := hide BV
      have PK := hide (pickx_any a.k 3 V (by decide) (by decide) hak)
      have hpk := pk_lt a.k 3 (by decide)
      generalize pk a.k 3 = kd at *
      clear hcell ha hm hak HP bV BV hV
      go_wp2_with fail
      refine PK.out.mono ?_
      rintro E w5 ⟨rfl, rfl⟩
      clear PK d0 d1 d2 d3 hV2 szV
      rcases (by omega : kd = 0 ∨ kd = 1 ∨ kd = 2) with rfl | rfl | rfl
      · obtain ⟨o, ho⟩ : ∃ o : Ov, (⟨true, a.key, a.val⟩ : Ov) = o := ⟨_, rfl⟩
        have X1 := hide (zput_any p F1 V ⟨l', false⟩ a.key a.val HV.out.pw.ps hfk hfv)
        rw [ho] at X1
        by_cases he : Tx.addE ⟨l', false⟩ o = 0
        · rw [he, show Tx.add ⟨l', false⟩ o = ⟨l' ++ [o], false⟩ by unfold Tx.add; rw [if_pos he]] at X1
          clear he
          go_wp2_with fail
          refine X1.out.mono ?_
          rintro E w6 ⟨rfl, hS⟩
          obtain ⟨F6, b6, u6⟩ := HV.out.step hS
          have hb6 := (u6.block R (blk_lt HB.out) nR).trans HB.out
          have d1 : w6.cell? ⟨R, 1, none⟩ = some (.string a.key) := blk_cell hb6 1 rfl
          have d2 : w6.cell? ⟨R, 2, none⟩ = some (.string a.val) := blk_cell hb6 2 rfl
          obtain ⟨V2, hV2, HPU0⟩ := b6.push o (by omega)
          rw [← ho] at hV2
          have HPU := hide HPU0
          clear X1 HV HB hS b6 u6 hb6 HPU0 x0 x1 x2 x3 ho
          go_wp2_with (at_builtin; refine wpList_append_at rfl (.tmp 56) (.tmp 62) 31 rfl (.slice va vn vk) (.slice (some ⟨w6.heap.size, 0, none⟩) 1 1) rfl rfl HPU.out ?_; rintro v8 w8 ⟨B8, a8, n8, k8, rfl⟩)
          have H8 := hide B8
          clear B8 HPU
          generalize l' ++ [o] = l2 at *
          obtain ⟨ta, tk, htv, _, _⟩ := H8.out.row.is.shape
          simp only [Value.slice.injEq] at htv
          obtain ⟨rfl, rfl, rfl⟩ := htv
          have TL := hide (zlen_any p F6 w8 _ H8.out.pw.ps)
          rw [Tx.len_on] at TL
          go_wp2_with fail
          refine TL.out.mono ?_
          rintro E w9 ⟨rfl, rfl⟩
          clear TL
          go_wp2
          go_roundw
          case rel => exact ⟨j + 1, F6, _, _, _, _, rfl, by go_num, by omega, H8⟩
          case measure => simp [intOf]; omega
        · rw [show Tx.add ⟨l', false⟩ o = ⟨l', false⟩ by unfold Tx.add; rw [if_neg he]] at X1
          obtain ⟨z, hz⟩ : ∃ z, Tx.addE ⟨l', false⟩ o = z := ⟨_, rfl⟩
          rw [hz] at X1 he
          have hz0 : (z == 0) = false := by simpa using he
          clear he hz
          go_wp2_with fail
          refine X1.out.mono ?_
          rintro E w6 ⟨rfl, hS⟩
          obtain ⟨F6, b6, u6⟩ := HV.out.step hS
          have H8 := hide b6
          clear X1 HV HB hS b6 u6 x0 x1 x2 x3 ho
          obtain ⟨ta, tk, htv, _, _⟩ := H8.out.row.is.shape
          simp only [Value.slice.injEq] at htv
          obtain ⟨rfl, rfl, rfl⟩ := htv
          have TL := hide (zlen_any p F6 w6 _ H8.out.pw.ps)
          rw [Tx.len_on] at TL
          go_wp2_with fail
          refine TL.out.mono ?_
          rintro E w9 ⟨rfl, rfl⟩
          clear TL
          go_wp2
          go_roundw
          case rel => exact ⟨j + 1, F6, _, _, _, _, rfl, by go_num, by omega, H8⟩
          case measure => simp [intOf]; omega
      · obtain ⟨o, ho⟩ : ∃ o : Ov, (⟨false, a.key, ⟨#[]⟩⟩ : Ov) = o := ⟨_, rfl⟩
        have X1 := hide (zdel_any p F1 V ⟨l', false⟩ a.key HV.out.pw.ps hfk)
        rw [ho] at X1
        by_cases he : Tx.addE ⟨l', false⟩ o = 0
        · rw [he, show Tx.add ⟨l', false⟩ o = ⟨l' ++ [o], false⟩ by unfold Tx.add; rw [if_pos he]] at X1
          clear he
          go_wp2_with fail
          refine X1.out.mono ?_
          rintro E w6 ⟨rfl, hS⟩
          obtain ⟨F6, b6, u6⟩ := HV.out.step hS
          have hb6 := (u6.block R (blk_lt HB.out) nR).trans HB.out
          have d1 : w6.cell? ⟨R, 1, none⟩ = some (.string a.key) := blk_cell hb6 1 rfl
          have d2 : w6.cell? ⟨R, 2, none⟩ = some (.string a.val) := blk_cell hb6 2 rfl
          obtain ⟨V2, hV2, HPU0⟩ := b6.push o (by omega)
          rw [← ho] at hV2
          have HPU := hide HPU0
          clear X1 HV HB hS b6 u6 hb6 HPU0 x0 x1 x2 x3 ho
          go_wp2_with (at_builtin; refine wpList_append_at rfl (.tmp 71) (.tmp 75) 31 rfl (.slice va vn vk) (.slice (some ⟨w6.heap.size, 0, none⟩) 1 1) rfl rfl HPU.out ?_; rintro v8 w8 ⟨B8, a8, n8, k8, rfl⟩)
          have H8 := hide B8
          clear B8 HPU
          generalize l' ++ [o] = l2 at *
          obtain ⟨ta, tk, htv, _, _⟩ := H8.out.row.is.shape
          simp only [Value.slice.injEq] at htv
          obtain ⟨rfl, rfl, rfl⟩ := htv
          have TL := hide (zlen_any p F6 w8 _ H8.out.pw.ps)
          rw [Tx.len_on] at TL
          go_wp2_with fail
          refine TL.out.mono ?_
          rintro E w9 ⟨rfl, rfl⟩
          clear TL
          go_wp2
          go_roundw
          case rel => exact ⟨j + 1, F6, _, _, _, _, rfl, by go_num, by omega, H8⟩
          case measure => simp [intOf]; omega
        · rw [show Tx.add ⟨l', false⟩ o = ⟨l', false⟩ by unfold Tx.add; rw [if_neg he]] at X1
          obtain ⟨z, hz⟩ : ∃ z, Tx.addE ⟨l', false⟩ o = z := ⟨_, rfl⟩
          rw [hz] at X1 he
          have hz0 : (z == 0) = false := by simpa using he
          clear he hz
          go_wp2_with fail
          refine X1.out.mono ?_
          rintro E w6 ⟨rfl, hS⟩
          obtain ⟨F6, b6, u6⟩ := HV.out.step hS
          have H8 := hide b6
          clear X1 HV HB hS b6 u6 x0 x1 x2 x3 ho
          obtain ⟨ta, tk, htv, _, _⟩ := H8.out.row.is.shape
          simp only [Value.slice.injEq] at htv
          obtain ⟨rfl, rfl, rfl⟩ := htv
          have TL := hide (zlen_any p F6 w6 _ H8.out.pw.ps)
          rw [Tx.len_on] at TL
          go_wp2_with fail
          refine TL.out.mono ?_
          rintro E w9 ⟨rfl, rfl⟩
          clear TL
          go_wp2
          go_roundw
          case rel => exact ⟨j + 1, F6, _, _, _, _, rfl, by go_num, by omega, H8⟩
          case measure => simp [intOf]; omega
      · have X1 := hide (zundo_any p F1 V ⟨l', false⟩ a.n HV.out.pw.ps)
        by_cases hn : 0 ≤ a.n ∧ a.n ≤ (l'.length : Int)
        · have e1 : Tx.undE ⟨l', false⟩ a.n = 0 := by unfold Tx.undE; rw [if_neg (by simp), if_pos hn]
          obtain ⟨k, hk⟩ : ∃ k : Nat, a.n = (k : Int) := ⟨a.n.toNat, by omega⟩
          have hkl : k ≤ l'.length := by omega
          rw [e1, show Tx.und ⟨l', false⟩ a.n = ⟨l'.take k, false⟩ by unfold Tx.und; rw [if_pos e1, hk, Int.toNat_natCast]] at X1
          rw [hk] at x3 X1 HB
          clear e1 hn hk
          have k0 : ¬ (k : Int) < 0 := by omega
          have k1 : ¬ (l'.length : Int) < k := by omega
          go_wp2_with fail
          refine X1.out.mono ?_
          rintro E w6 ⟨rfl, hS⟩
          obtain ⟨F6, b6, u6⟩ := HV.out.step hS
          have hb6 := (u6.block R (blk_lt HB.out) nR).trans HB.out
          have d3 : w6.cell? ⟨R, 3, none⟩ = some (.int .i64 k) := blk_cell hb6 3 rfl
          obtain ⟨v8, hs8, B8, a8, n8, k8, rfl⟩ := b6.cut k hkl
          obtain ⟨qa, qk, hqv, _, _⟩ := b6.row.is.shape
          simp only [Value.slice.injEq] at hqv
          obtain ⟨rfl, rfl, rfl⟩ := hqv
          have H8 := hide B8
          clear X1 HV HB hS b6 u6 hb6 x0 x1 x2 x3 B8
          generalize hl2 : l'.take k = l2 at *
          obtain ⟨ta, tk, htv, _, _⟩ := H8.out.row.is.shape
          simp only [Value.slice.injEq] at htv
          obtain ⟨rfl, rfl, rfl⟩ := htv
          have TL := hide (zlen_any p F6 w6 _ H8.out.pw.ps)
          rw [Tx.len_on] at TL
          go_wp2_with fail
          refine TL.out.mono ?_
          rintro E w9 ⟨rfl, rfl⟩
          clear TL
          go_wp2
          go_roundw
          case rel => exact ⟨j + 1, F6, _, _, _, _, rfl, by go_num, by omega, H8⟩
          case measure => simp [intOf]; omega
        · have e1 : Tx.undE ⟨l', false⟩ a.n = 2 := by unfold Tx.undE; rw [if_neg (by simp), if_neg hn]
          rw [e1, show Tx.und ⟨l', false⟩ a.n = ⟨l', false⟩ by unfold Tx.und; rw [if_neg (by rw [e1]; decide)]] at X1
          clear e1 hn
          go_wp2_with fail
          refine X1.out.mono ?_
          rintro E w6 ⟨rfl, hS⟩
          obtain ⟨F6, b6, u6⟩ := HV.out.step hS
          have H8 := hide b6
          clear X1 HV HB hS b6 u6 x0 x1 x2 x3
          obtain ⟨ta, tk, htv, _, _⟩ := H8.out.row.is.shape
          simp only [Value.slice.injEq] at htv
          obtain ⟨rfl, rfl, rfl⟩ := htv
          have TL := hide (zlen_any p F6 w6 _ H8.out.pw.ps)
          rw [Tx.len_on] at TL
          go_wp2_with fail
          refine TL.out.mono ?_
          rintro E w9 ⟨rfl, rfl⟩
          clear TL
          go_wp2
          go_roundw
          case rel => exact ⟨j + 1, F6, _, _, _, _, rfl, by go_num, by omega, H8⟩
          case measure => simp [intOf]; omega
    · have hlt' : ¬ (j : Int) < l.length := by omega
      have h8 : l'.length ≤ 8 := HP.out.pw.ps.ok.1
      have hok := HP.out.pw.ps.ok
      obtain ⟨ta, tk, htv, _, _⟩ := HP.out.row.is.shape
      simp only [Value.slice.injEq] at htv
      obtain ⟨rfl, rfl, rfl⟩ := htv
      have DN := hide (zdone_any p F1 wr ⟨l', false⟩ HP.out.pw.ps)
      by_cases h0 : l'.length = 0
      · have e1 : Tx.donE ⟨l', false⟩ = 2 := by unfold Tx.donE; rw [if_neg (by simp), if_pos h0]
        have e3 : Tx.donL ⟨l', false⟩ = [] := by unfold Tx.donL; rw [if_neg (by rw [e1]; decide)]
        rw [e1, e3] at DN
        clear e1 e3 hok
        go_wp2_with fail
        refine DN.out.mono ?_
        rintro E w5 ⟨v5, rfl, o5, hS⟩
        obtain ⟨F5, p5, _⟩ := HP.out.pw.step (PzS.of_done hS)
        have P5 := hide p5
        obtain ⟨a5, k5, hv5, _, _⟩ := o5.is.shape
        subst hv5
        clear DN hS p5 o5
        generalize l'.length = n0 at *
        subst h0
        go_wp2
        go_ret
        exact ⟨rfl, B1.out.trans (P5.out.bel.mono B1.out.size)⟩
      · have e1 : Tx.donE ⟨l', false⟩ = 0 := by unfold Tx.donE; rw [if_neg (by simp), if_neg h0]
        have e3 : Tx.donL ⟨l', false⟩ = l' := by unfold Tx.donL; rw [if_pos e1]
        have hck := Tx.chkL_ok hok h0
        have hft := Tx.fits hok
        rw [e1, e3] at DN
        clear e1 e3 hok
        have h0' : ((l'.length : Int) == 0) = false := by rw [beq_eq_false_iff_ne]; omega
        go_wp2_with fail
        refine DN.out.mono ?_
        rintro E w5 ⟨v5, rfl, o5, hS⟩
        obtain ⟨F5, p5, u5⟩ := HP.out.pw.step (PzS.of_done hS)
        have P5 := hide p5
        have R4 : OwnO 36 w1.heap.size w5 (.slice va l'.length vk) l' := row_agree HP.out.row fun g hg => u5.block g (HP.out.row.block g hg).2 (HP.out.ap g hg)
        have R5 := R4.is
        obtain ⟨a5, k5, hv5, _, _⟩ := o5.is.shape
        have CK := hide (bcheck_any v5 l' w5 o5.is hft (by omega))
        rw [show Bm.chkL l' = 0 from hck] at CK
        have SM : Hid (∀ W, Below w5.heap.size w5 W → Calls Try.prog 15 #[v5, .slice va l'.length vk] W fun e w' => e = .returned (.bool true) ∧ Below W.heap.size W w') := hide fun W hW => by
          have := sameO_any v5 (.slice va l'.length vk) l' l' W (o5.is.below hW) (R5.below hW) (by omega) (by omega)
          rw [Bm.sameL_self] at this
          exact this
        subst hv5
        clear DN hS p5 u5 R4 R5 o5 hck hft HP
        generalize l'.length = n0 at *
        go_wp2_with fail
        refine CK.out.mono ?_
        rintro E w6 ⟨rfl, b6⟩
        have S6 := hide (SM.out w6 b6)
        have P6 := hide (P5.out.below b6)
        clear CK b6 SM P5
        go_wp2_with fail
        refine S6.out.mono ?_
        rintro E w7 ⟨rfl, b7⟩
        have P7 := hide (P6.out.below b7)
        clear S6 b7 P6
        go_wp2
        go_ret
        exact ⟨rfl, B1.out.trans (P7.out.bel.mono B1.out.size)⟩

end Go.Proofs.Ytofbnkeglhhnlaa

/- Proved: TxnBatch -/
namespace Go.Proofs.Ytofbnkeglhhnlaa
open Go.ChangeShapes Go.WideShapes Go.ChangeAt Go.RowKit
open Go.ChangeMaps (open_string shut_string)
set_option linter.unusedVariables false

namespace txnBatchFrame
theorem own : ownKnob Try.prog.godebug = none := by kernel_rfl
theorem laidOut : laidOutB Try.prog = true := by kernel_rfl
theorem cells43 : Try.prog.cellsOf 43 = 4 := by kernel_rfl
theorem bytes43 : Try.prog.bytesOf 43 = 48 := by kernel_rfl

set_option maxRecDepth 100000 in
theorem lifted (os : Os) (started : os.Started) (H : Type) (enc : TypeId × Value → H) :
    ReturnsInHanded {} Try.checked os 6 .any (Rows.txnBatchSpec.pre6 enc Try.prog Try.f6 Rows.txnBatchRow.domain false) (Rows.txnBatchSpec.post enc Try.prog Try.f6 false true false false) := by
  refine returnsInHanded_of_change_sized (C := Try.checked) own started (by kernel_rfl) Try.func6
    (ChangeSpec.witness6 (enc := enc) (C := Try.checked) false ⟨#[], #[.slice none 0 0], []⟩ 8 (by kernel_rfl) (by kernel_rfl) (by kernel_rfl) (by kernel_rfl)) ?_
  intro W base args ds gs before hval0 hW hcnd hsz0 _
  have hsz : (DataW.weightsEach Try.prog (Try.f6.params.toList ++ Rows.txnBatchSpec.plain.varTypes Try.prog) (ds ++ gs)).all (· ≤ reachBytes) = true := hsz0
  clear hsz0
  have hval : ∀ (j : Nat) t v, Try.f6.params[j]? = some t → args[j]? = some v → Value.okWide Try.prog W .any base t v := hval0
  have hW' := hW
  obtain ⟨p, q, hA0, hV, rfl, hfz, hnd⟩ := hW
  have hA : DataW.TrodAll enc Try.prog W 0 (fun _ => true) true Try.f6.params.toList args.toList ds p := hA0
  rw [Try.params6] at hA hval hsz
  obtain ⟨v0, vs0, d0, ds0, p0, q0, hargs, rfl, rfl, h0, r0⟩ := trodAll_cons hA
  obtain ⟨rfl, rfl, rfl⟩ := trodAll_nil r0
  obtain rfl : args = #[v0] := by cases args; simp_all
  obtain ⟨rfl, rfl⟩ := trodVars_none hV
  obtain ⟨a0, len0, cap0, rfl⟩ := okWide_slice Try.underlying38 (hval 0 38 v0 rfl rfl)
  have k0 := h0
  have lt0 : ∀ x ∈ p0, x.block < W.heap.size := by obtain ⟨m, hm⟩ := k0; exact DataW.trod_lt m _ _ _ hm
  obtain ⟨z0, w0, g0, b0⟩ : ∃ l, IsT W (.slice a0 len0 cap0) l ∧ FitT l ∧ l.length * 48 ≤ 140737488351232 := by
    obtain ⟨fuel, hf⟩ := h0
    have hf' : DataW.trod enc Try.prog W 0 (fun _ => true) true fuel 38 [.slice a0 len0 cap0] = some (d0, p0) := by simpa [Value.cells] using hf
    obtain ⟨l, hl, hd⟩ := open_ts Try.underlying38 Try.underlying43 (by kernel_rfl) cells43 Try.underlying3 Try.underlying9 Try.underlying9 Try.underlying3 hf'
    rcases hd with ⟨_, rfl⟩ | ⟨sp, hd⟩
    · exact ⟨[], hl, fun o ho => by simp at ho, by simp⟩
    · simp only at hd
      rw [hd] at hsz
      obtain ⟨h1, h2⟩ := sized_ts hsz (j := 0) (t := 38) (e := 43) rfl rfl Try.underlying38 Try.underlying43 bytes43
      exact ⟨l, hl, h1, h2⟩
  clear hA0 hval0
  refine (txnBatch_walk _ z0 W w0 g0 b0).mono fun e W' ⟨he, bel⟩ => ?_
  subst he
  exact ⟨_, rfl, _, _, _, [], _, [], hW', trodAll_mk1 (shut_bool Try.underlying4 _), (trodAll_cons_mk (Below.trod laidOut (by kernel_rfl) (of_decide_eq_true (by kernel_rfl)) k0 bel lt0) trodAll_mk0), rfl, bel.frame _, fun h => by cases h⟩

theorem over : Rows.txnBatchRow.holds Try.pinned (OpenSpec.ofChange Rows.txnBatchSpec) :=
  OpenClaim.holds_of_wide 6 Try.f6 rfl rfl rfl rfl rfl rfl rfl ⟨rfl, rfl, rfl, rfl, rfl⟩ rfl rfl rfl rfl rfl (by kernel_rfl) Try.func6 (by kernel_rfl)
    (of_decide_eq_true (by kernel_rfl)) (by unfold Func.isWrapper; first | (rw [if_pos (by decide +kernel)]; kernel_rfl) | (rw [if_neg (by decide +kernel)]; exact ⟨rfl, rfl⟩))
    (fun os started H enc _ => lifted os started H enc)
end txnBatchFrame

/-- The statement. -/
theorem txnBatch_holds : Rows.TxnBatchSaid := txnBatchFrame.over
#print axioms txnBatch_holds
end Go.Proofs.Ytofbnkeglhhnlaa
