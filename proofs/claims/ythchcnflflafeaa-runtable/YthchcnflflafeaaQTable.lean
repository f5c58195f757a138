/- Texts of one layer, one behind the other. -/
import Derived.Test.YthchcnflflafeaaGU
import Derived.Test.YthchcnflflafeaaProg
import Derived.Test.YthchcnflflafeaaGT2
import Derived.Test.YthchcnflflafeaaGC5
import Derived.Test.YthchcnflflafeaaGFt
import Derived.Deep.CutBlock
import Derived.Test.YthchcnflflafeaaRows
import Derived.ProofKit
import Derived.OpenShut
import Derived.ShutString
import Derived.ChangeOld
import Derived.Below
import Derived.SizedLaws
/- The steps of a region of RunTable's. -/
namespace Go.Proofs.Ythchcnflflafeaa
open Go.RowKit
set_option linter.unusedVariables false

theorem wyg_new : Array.replicate 14 false = lst 14 0 := by kernel_rfl

theorem wyg_size : (regOf 15 Try.f6).size = 14 := by kernel_rfl

theorem wyg_t0_0 : Region.free .any (regOf 15 Try.f6) (lst 14 0) 0 = true ∧ (Region.ready .any (regOf 15 Try.f6) (lst 14 0)).contains 0 = true ∧ (lst 14 0).setIfInBounds 0 true = lst 14 1 := ⟨by kernel_rfl, by kernel_rfl, by kernel_rfl⟩

theorem wyg_t1_3 : Region.free .any (regOf 15 Try.f6) (lst 14 1) 3 = true ∧ (Region.ready .any (regOf 15 Try.f6) (lst 14 1)).contains 3 = true ∧ (lst 14 1).setIfInBounds 3 true = lst 14 9 := ⟨by kernel_rfl, by kernel_rfl, by kernel_rfl⟩

theorem wyg_t9_6 : Region.free .any (regOf 15 Try.f6) (lst 14 9) 6 = true ∧ (Region.ready .any (regOf 15 Try.f6) (lst 14 9)).contains 6 = true ∧ (lst 14 9).setIfInBounds 6 true = lst 14 73 := ⟨by kernel_rfl, by kernel_rfl, by kernel_rfl⟩

theorem wyg_t73_7 : Region.free .any (regOf 15 Try.f6) (lst 14 73) 7 = true ∧ (Region.ready .any (regOf 15 Try.f6) (lst 14 73)).contains 7 = true ∧ (lst 14 73).setIfInBounds 7 true = lst 14 201 := ⟨by kernel_rfl, by kernel_rfl, by kernel_rfl⟩

theorem wyg_t201_8 : Region.free .any (regOf 15 Try.f6) (lst 14 201) 8 = true ∧ (Region.ready .any (regOf 15 Try.f6) (lst 14 201)).contains 8 = true ∧ (lst 14 201).setIfInBounds 8 true = lst 14 457 := ⟨by kernel_rfl, by kernel_rfl, by kernel_rfl⟩

theorem wyg_t457_9 : Region.free .any (regOf 15 Try.f6) (lst 14 457) 9 = true ∧ (Region.ready .any (regOf 15 Try.f6) (lst 14 457)).contains 9 = true ∧ (lst 14 457).setIfInBounds 9 true = lst 14 969 := ⟨by kernel_rfl, by kernel_rfl, by kernel_rfl⟩

theorem wyg_t2047_11 : Region.free .any (regOf 15 Try.f6) (lst 14 2047) 11 = true ∧ (Region.ready .any (regOf 15 Try.f6) (lst 14 2047)).contains 11 = true ∧ (lst 14 2047).setIfInBounds 11 true = lst 14 4095 := ⟨by kernel_rfl, by kernel_rfl, by kernel_rfl⟩

theorem wyg_o4095 : Region.ready .any (regOf 15 Try.f6) (lst 14 4095) = [12] ∧ (lst 14 4095).setIfInBounds 12 true = lst 14 8191 := ⟨by kernel_rfl, by kernel_rfl⟩

theorem wyg_o8191 : Region.ready .any (regOf 15 Try.f6) (lst 14 8191) = [13] ∧ (lst 14 8191).setIfInBounds 13 true = lst 14 16383 := ⟨by kernel_rfl, by kernel_rfl⟩

theorem wyg_end : Region.ready .any (regOf 15 Try.f6) (lst 14 16383) = [] := by kernel_rfl

theorem wyg_o5119 : Region.ready .any (regOf 15 Try.f6) (lst 14 5119) = [10] ∧ (lst 14 5119).setIfInBounds 10 true = lst 14 6143 := ⟨by kernel_rfl, by kernel_rfl⟩

theorem wyg_t6143_11 : Region.free .any (regOf 15 Try.f6) (lst 14 6143) 11 = true ∧ (Region.ready .any (regOf 15 Try.f6) (lst 14 6143)).contains 11 = true ∧ (lst 14 6143).setIfInBounds 11 true = lst 14 8191 := ⟨by kernel_rfl, by kernel_rfl, by kernel_rfl⟩

theorem wyg_t991_5 : Region.free .any (regOf 15 Try.f6) (lst 14 991) 5 = true ∧ (Region.ready .any (regOf 15 Try.f6) (lst 14 991)).contains 5 = true ∧ (lst 14 991).setIfInBounds 5 true = lst 14 1023 := ⟨by kernel_rfl, by kernel_rfl, by kernel_rfl⟩

theorem wyg_f1023 : Region.ready .any (regOf 15 Try.f6) (lst 14 1023) = [10, 12] ∧ (lst 14 1023).setIfInBounds 10 true = lst 14 2047 ∧ (lst 14 1023).setIfInBounds 12 true = lst 14 5119 := ⟨by kernel_rfl, by kernel_rfl, by kernel_rfl⟩

theorem wyg_o5071 : Region.ready .any (regOf 15 Try.f6) (lst 14 5071) = [4] ∧ (lst 14 5071).setIfInBounds 4 true = lst 14 5087 := ⟨by kernel_rfl, by kernel_rfl⟩

theorem wyg_t5087_5 : Region.free .any (regOf 15 Try.f6) (lst 14 5087) 5 = true ∧ (Region.ready .any (regOf 15 Try.f6) (lst 14 5087)).contains 5 = true ∧ (lst 14 5087).setIfInBounds 5 true = lst 14 5119 := ⟨by kernel_rfl, by kernel_rfl, by kernel_rfl⟩

theorem wyg_t971_2 : Region.free .any (regOf 15 Try.f6) (lst 14 971) 2 = true ∧ (Region.ready .any (regOf 15 Try.f6) (lst 14 971)).contains 2 = true ∧ (lst 14 971).setIfInBounds 2 true = lst 14 975 := ⟨by kernel_rfl, by kernel_rfl, by kernel_rfl⟩

theorem wyg_f975 : Region.ready .any (regOf 15 Try.f6) (lst 14 975) = [4, 12] ∧ (lst 14 975).setIfInBounds 4 true = lst 14 991 ∧ (lst 14 975).setIfInBounds 12 true = lst 14 5071 := ⟨by kernel_rfl, by kernel_rfl, by kernel_rfl⟩

theorem wyg_o5065 : Region.ready .any (regOf 15 Try.f6) (lst 14 5065) = [1] ∧ (lst 14 5065).setIfInBounds 1 true = lst 14 5067 := ⟨by kernel_rfl, by kernel_rfl⟩

theorem wyg_t5067_2 : Region.free .any (regOf 15 Try.f6) (lst 14 5067) 2 = true ∧ (Region.ready .any (regOf 15 Try.f6) (lst 14 5067)).contains 2 = true ∧ (lst 14 5067).setIfInBounds 2 true = lst 14 5071 := ⟨by kernel_rfl, by kernel_rfl, by kernel_rfl⟩

theorem wyg_f969 : Region.ready .any (regOf 15 Try.f6) (lst 14 969) = [1, 12] ∧ (lst 14 969).setIfInBounds 1 true = lst 14 971 ∧ (lst 14 969).setIfInBounds 12 true = lst 14 5065 := ⟨by kernel_rfl, by kernel_rfl, by kernel_rfl⟩

end Go.Proofs.Ythchcnflflafeaa

/- RunTable: reading through the runs is reading the table of all that went into them. -/
namespace Go.Proofs.Ythchcnflflafeaa
open Go.RowKit
open Bm (Ov)
set_option linter.unusedVariables false

theorem app_len : ∀ (l t : List Ov), (Tm.app t l).length ≤ t.length + l.length
  | [], t => by simp [Tm.app]
  | o :: l, t => by
    have h1 := app_len l (Tm.one t o)
    have h2 := Tm.one_len t o
    show (Tm.app (Tm.one t o) l).length ≤ _
    rw [List.length_cons]
    omega

theorem KW.outT {w wr w' : World} {p q bt : Nat} {F : Nat → Prop} {s : Rl.Rs} (h : KW w wr p q F s) (ho : Out (fun g => g = bt) wr w') (hf : ¬ F bt) (hb : w.heap.size ≤ bt) : KW w w' p q F s :=
  ⟨h.rw.out ho fun g hg e => hf (e ▸ hg), h.fb, h.bel.trans (ho.below (fun g hg => by omega) h.bel.size)⟩

theorem Tb.outF {w w' : World} {pt bt : Nat} {F : Nat → Prop} {t : List Ov} (h : Tb pt bt w t) (ho : Out F w w') (h1 : ¬ F pt) (h2 : ¬ F bt) : Tb pt bt w' t := h.agree (ho.block pt h.plt h1) (ho.block bt h.blt h2)

theorem ns_step {W : World} {pt bt : Nat} {F F' : Nat → Prop} {t : List Ov} (h : ¬ F pt ∧ ¬ F bt) (hn : ∀ g, F' g → F g ∨ W.heap.size ≤ g) (ht : Tb pt bt W t) : ¬ F' pt ∧ ¬ F' bt := by
  refine ⟨fun e => ?_, fun e => ?_⟩
  · rcases hn pt e with e | e
    · exact h.1 e
    · have := ht.plt; omega
  · rcases hn bt e with e | e
    · exact h.2 e
    · have := ht.blt; omega

set_option maxRecDepth 20000 in
set_option maxHeartbeats 16000000 in
theorem runTable_walk (v : Value) (r : List Rw) (vk : Value) (ks : List ByteArray) (k t : Int) (w : World) (h : IsLL w v r) (hf : FitL r) (hr : r.length * 24 ≤ 140737488351232) (hks : IsS w vk ks) (hfk : FitS ks) (hlk : ks.length * 16 ≤ 140737488351232) (hk : (Lit.int .i64 k).wf = true) (ht : (Lit.int .i64 t).wf = true) :
    Calls Try.prog 6 #[v, vk, .int .i64 k, .int .i64 t] w fun e w' => e = .returned (.bool true) ∧ Below w.heap.size w w' := by
  have i2 := range_i64 (zs := [t]) (by simpa using ht) 0
  simp at i2
  have HQ := hide h
  have HFQ := hide hf
  have HK := hide hks
  have HFK := hide hfk
  obtain ⟨qa, qc, hvl, _, _⟩ := h.1.shape
  obtain ⟨ka, kc, hvk, _, _⟩ := hks.shape
  subst hvl hvk
  clear h hf hk ht hks hfk
  go_enter Try.func6, Try.ntmps6
  go_wp2_with fail
  refine (lives_any w).mono ?_
  rintro E w1 ⟨rfl, b1⟩
  have B1 := hide b1
  clear b1
  by_cases hn0 : (40 : Int) < r.length
  · go_wp2
    go_ret
    exact ⟨rfl, B1.out⟩
  by_cases hm0 : (40 : Int) < ks.length
  · go_wp2
    go_ret
    exact ⟨rfl, B1.out⟩
  by_cases hk0 : k < 0
  · go_wp2
    go_ret
    exact ⟨rfl, B1.out⟩
  by_cases ht0 : t < 0
  · go_wp2
    go_ret
    exact ⟨rfl, B1.out⟩
  have hk1 : 0 ≤ k := by omega
  have ht1 : 0 ≤ t := by omega
  have hll : r.length ≤ 40 := by omega
  have HQ1 := hide (HQ.out.below B1.out)
  have HK1 := hide (HK.out.below B1.out)
  clear HQ HK
  go_wp2_with fail
  refine (new_any w1).mono ?_
  rintro E w2 ⟨rfl, K2, b2⟩
  have HO := hide (rnew_any w1 w2 w1.heap.size (Nat.le_refl _) K2 b2)
  clear K2 b2
  go_wp2_with fail
  refine HO.out.mono ?_
  rintro E w3 ⟨p, F3, rfl, W3, g3, b3⟩
  obtain ⟨q, hq⟩ : ∃ q, q = w1.heap.size := ⟨_, rfl⟩
  rw [← hq] at W3
  have K3 : Hid (KW w1 w3 p q F3 rs0) := hide ⟨W3, g3, b3⟩
  rw [← hq]
  clear HO W3 g3 b3 hq
  go_wp2_with fail
  refine (tnew_any w3).mono ?_
  rintro E w4 ⟨rfl, T4, b4⟩
  have K4 := hide (K3.out.below b4)
  have FT : Hid (¬ F3 (w3.heap.size + 1) ∧ ¬ F3 w3.heap.size) := hide ⟨fun e => by have := K3.out.rw.lt _ e; omega, fun e => by have := K3.out.rw.lt _ e; omega⟩
  have PT : Hid (w1.heap.size ≤ w3.heap.size) := hide K3.out.bel.size
  obtain ⟨pt, hpt⟩ : ∃ x, w3.heap.size + 1 = x := ⟨_, rfl⟩
  obtain ⟨bt, hbt⟩ : ∃ x, w3.heap.size = x := ⟨_, rfl⟩
  rw [hpt] at T4 FT ⊢
  rw [hbt] at T4 FT PT
  have HT4 := hide T4
  have HPT : Hid (w1.heap.size ≤ pt) := hide (by have := PT.out; omega)
  clear K3 T4 b4 hpt hbt
  go_wp2_with fail
  go_loopw [13] (fun iv wr => ∃ (j : Nat) (F : Nat → Prop) (s : Rl.Rs) (la : List Cm.Cv), j ≤ r.length ∧ iv = .int .i64 j ∧ Hid (KW w1 wr p q F s) ∧ Hid (Rl.Kin s la) ∧ Hid (s.d.has = false) ∧ Hid (Big (52236 * j) (818 * j) s.d) ∧ Hid (la.length = j ∧ Cm.lastN 0 la = j) ∧ Hid (Tb pt bt wr (Rl.tab la)) ∧ Hid ((Rl.tab la).length ≤ 40 * j) ∧ Hid (¬ F pt ∧ ¬ F bt)) (fun iv _ => r.length - (intOf iv).toNat)
  case atStart => exact ⟨0, _, _, [], by omega, rfl, K4, hide rnew_kin, hide rfl, hide big_new, hide ⟨rfl, rfl⟩, HT4, hide (by simp [Rl.tab, Rl.ops, Tm.app]), FT⟩
  case round =>
    obtain ⟨j, F, s, la, hj, rfl, KR, NR, SR, BR, LR, TR, TL, NF⟩ := hrel
    clear K4 HT4 FT
    by_cases hlt : j < r.length
    · obtain ⟨qb, qo, qk, hvx, _, _, _, hcell⟩ := (HQ1.out.below KR.out.bel).full (by omega)
      simp only [Value.slice.injEq, true_and] at hvx
      obtain ⟨rfl, rfl⟩ := hvx
      obtain ⟨a, ha⟩ : ∃ a, r[j]? = some a := ⟨r[j], by rw [List.getElem?_eq_getElem]⟩
      have d0 := hcell j a ha
      have AO := hide ((HQ1.out.below KR.out.bel).2 a (List.mem_of_getElem? ha))
      have AF := hide (HFQ.out a (List.mem_of_getElem? ha))
      obtain ⟨ao, ak, hao, _, _⟩ := AO.out.shape
      have HAO := hide hao
      rw [hao] at d0
      have hlt' : (j : Int) < r.length := by omega
      have hj0 : (0 : Int) ≤ (j : Int) := by omega
      clear hcell ha hao
      by_cases h40 : (40 : Int) < a.l.length
      · go_wp2
        go_ret
        exact ⟨rfl, B1.out.trans (KR.out.bel.mono B1.out.size)⟩
      have hw1 : IntKind.i64.wrap ((j : Int) + 1) = (j : Int) + 1 := wrap_i64_small _ (by omega) (by omega)
      go_wp2_with fail
      go_cut [14] from 74 to 85 (fun xv wx => ∃ (X : Nat) (ua : Option Addr) (uk : Nat), xv = .pointer (some ⟨X, 0, none⟩) ∧ Hid (wx.heap[X]? = some (.cells #[.int .i64 ((j : Int) + 1), .int .i64 ((j : Int) + 1), .slice ua (srt a.l).length uk] 32 (0, 0))) ∧ Hid (OwnO 35 wr.heap.size wx (.slice ua (srt a.l).length uk) (srt a.l)) ∧ Hid (Below wr.heap.size wr wx) ∧ Hid (wr.heap.size ≤ X))
      case first =>
        obtain ⟨W0, hW0⟩ : ∃ x, wr.drew = x := ⟨_, rfl⟩
        have b00 : Below wr.heap.size wr W0 := by rw [← hW0]; exact (Below.refl _ _).drew
        obtain ⟨V0, hV0, szV, belV, hBV⟩ := blk_step W0 #[.int .i64 0, .int .i64 0, .slice none 0 0] 32
        have bv0 := b00.trans (belV.mono b00.size)
        have SX : Hid (∀ W, Below wr.heap.size wr W → W.cell? ⟨qb, qo + j, none⟩ = some (.slice ao a.l.length ak)) := hide fun W hW => (hW.cell (p := ⟨qb, qo + j, none⟩) (World.block_lt_of_cell? _ _ d0)).trans d0
        have F0 := SX.out W0 b00
        have FV := SX.out V0 bv0
        have SO := hide (sorted_any _ a.l W0 (AO.out.below b00) AF.out (by omega))
        have SOV := hide (sorted_any _ a.l V0 (AO.out.below bv0) AF.out (by omega))
        rw [HAO.out] at SO SOV
        have HEN := hide (hrend_any p q F W0 s (KR.out.rw.below b00))
        have HENV := hide (hrend_any p q F V0 s (KR.out.rw.below bv0))
        rw [NR.out.l, LR.out.2] at HEN HENV
        refine region_any (ops := (regOf 15 Try.f6)) (S := fun W => W.cell? ⟨qb, qo + j, none⟩ = some (.slice ao a.l.length ak)) (by kernel_rfl) wyg_size ?_
        rw [wyg_new, hW0]
        refine any_take (v := ?_) wyg_t0_0 (by kernel_rfl) (fun _ _ _ _ _ h => h) F0 rfl rfl (by rfl) ?_ ?_
        rotate_left 1
        · intro w hS
          (try dsimp only at hS)
          go_simp
          all_goals with_reducible rfl
        simp only [Act.put, List.setIfInBounds_toArray, List.set_cons_zero, List.set_cons_succ]
        refine any_take (v := ?_) wyg_t1_3 (by kernel_rfl) (fun _ _ _ _ _ h => h) F0 rfl rfl (by rfl) ?_ ?_
        rotate_left 1
        · intro w hS
          (try dsimp only at hS)
          go_simp
          all_goals with_reducible rfl
        simp only [Act.put, List.setIfInBounds_toArray, List.set_cons_zero, List.set_cons_succ]
        refine any_take (v := ?_) wyg_t9_6 (by kernel_rfl) (fun _ _ _ _ _ h => h) F0 rfl rfl (by rfl) ?_ ?_
        rotate_left 1
        · intro w hS
          (try dsimp only at hS)
          go_simp
          all_goals with_reducible rfl
        simp only [Act.put, List.setIfInBounds_toArray, List.set_cons_zero, List.set_cons_succ]
        refine any_take (v := ?_) wyg_t73_7 (by kernel_rfl) (fun _ _ _ _ _ h => h) F0 rfl rfl (by rfl) ?_ ?_
        rotate_left 1
        · intro w hS
          (try dsimp only at hS)
          go_simp
          all_goals with_reducible rfl
        simp only [Act.put, List.setIfInBounds_toArray, List.set_cons_zero, List.set_cons_succ]
        refine any_take (v := ?_) wyg_t201_8 (by kernel_rfl) (fun _ _ _ _ _ h => h) F0 rfl rfl (by rfl) ?_ ?_
        rotate_left 1
        · intro w hS
          (try dsimp only at hS)
          go_simp
          all_goals with_reducible rfl
        simp only [Act.put, List.setIfInBounds_toArray, List.set_cons_zero, List.set_cons_succ]
        refine any_take (v := ?_) wyg_t457_9 (by kernel_rfl) (fun _ _ _ _ _ h => h) F0 rfl rfl (by rfl) ?_ ?_
        rotate_left 1
        · intro w hS
          (try dsimp only at hS)
          go_simp
          all_goals with_reducible rfl
        simp only [Act.put, List.setIfInBounds_toArray, List.set_cons_zero, List.set_cons_succ]
        refine any_two wyg_f969 ?_ ?_
        · refine any_op rfl (by rfl) (fun K hK => ?_)
          go_simp
          refine HEN.out.mono ?_
          rintro E wx ⟨rfl, rfl⟩
          go_wp2_with fail
          refine hK.out _ _ F0 ?_
          clear hK K
          try simp only [Act.put, List.setIfInBounds_toArray, List.set_cons_zero, List.set_cons_succ]
          refine any_take (v := ?_) wyg_t971_2 (by kernel_rfl) (fun _ _ _ _ _ h => h) F0 rfl rfl (by rfl) ?_ ?_
          rotate_left 1
          · intro w hS
            (try dsimp only at hS)
            go_simp
            all_goals with_reducible rfl
          simp only [Act.put, List.setIfInBounds_toArray, List.set_cons_zero, List.set_cons_succ]
          refine any_two wyg_f975 ?_ ?_
          · refine any_op rfl (by rfl) (fun K hK => ?_)
            go_simp
            refine HEN.out.mono ?_
            rintro E wx ⟨rfl, rfl⟩
            go_wp2_with fail
            refine hK.out _ _ F0 ?_
            clear hK K
            try simp only [Act.put, List.setIfInBounds_toArray, List.set_cons_zero, List.set_cons_succ]
            refine any_take (v := ?_) wyg_t991_5 (by kernel_rfl) (fun _ _ _ _ _ h => h) F0 rfl rfl (by rfl) ?_ ?_
            rotate_left 1
            · intro w hS
              (try dsimp only at hS)
              go_simp
              all_goals with_reducible rfl
            simp only [Act.put, List.setIfInBounds_toArray, List.set_cons_zero, List.set_cons_succ]
            refine any_two wyg_f1023 ?_ ?_
            · refine any_op rfl (by rfl) (fun K hK => ?_)
              go_simp
              refine SO.out.mono ?_
              rintro E wa ⟨u, rfl, ou, ba⟩
              obtain ⟨ua, uk, hu, _, _⟩ := ou.is.shape
              subst hu
              have ba0 := b00.trans (ba.mono b00.size)
              have Fa := SX.out wa ba0
              obtain ⟨Va, hVa, szVa, belVa, hBVa⟩ := blk_step wa #[.int .i64 0, .int .i64 0, .slice none 0 0] 32
              obtain ⟨wb, hwb, bB, gb, ⟨p0, p1, p2⟩, ⟨f0, f1, f2⟩, ⟨l0, l1, l2⟩⟩ := res_step hBVa (.int .i64 ((j : Int) + 1)) (.int .i64 ((j : Int) + 1)) (.slice ua (srt a.l).length uk)
              have bV0 := ba0.trans (belVa.mono ba0.size)
              have bb := below_put bV0 gb (show wr.heap.size ≤ wa.heap.size from ba0.size) bV0.size
              have Fv := SX.out Va bV0
              have Fw := SX.out wb bb
              have hne : ∀ g, (Value.slice ua (srt a.l).length uk).ownBlock = some g → g ≠ wa.heap.size := fun g hg e => by have := (ou.block g hg).2; omega
              have OB : Hid (OwnO 35 wr.heap.size wb (.slice ua (srt a.l).length uk) (srt a.l)) := hide (((ou.below belVa).kept gb (.inr fun e => hne _ e rfl)).rebase b00.size)
              have REL := hide (And.intro bB (And.intro bb (show wr.heap.size ≤ wa.heap.size from ba0.size)))
              clear ou ba hBVa gb hne bB bV0 ba0
              go_wp2_with fail
              refine hK.out _ _ Fa ?_
              clear hK K
              try simp only [Act.put, List.setIfInBounds_toArray, List.set_cons_zero, List.set_cons_succ]
              refine any_take (v := ?_) wyg_t2047_11 (by kernel_rfl) (fun _ _ _ _ _ h => h) Fa rfl rfl (by rfl) ?_ ?_
              rotate_left 1
              · intro w hS
                (try dsimp only at hS)
                go_simp
                all_goals with_reducible rfl
              simp only [Act.put, List.setIfInBounds_toArray, List.set_cons_zero, List.set_cons_succ]
              refine any_one wyg_o4095 ?_
              refine any_op rfl (by rfl) (fun K hK => ?_)
              go_simp
              go_wp2_with fail
              refine hK.out _ _ Fv ?_
              clear hK K
              try simp only [Act.put, List.setIfInBounds_toArray, List.set_cons_zero, List.set_cons_succ]
              refine any_one wyg_o8191 ?_
              refine any_op rfl (by rfl) (fun K hK => ?_)
              go_simp
              go_wp2_with fail
              refine hK.out _ _ Fw ?_
              clear hK K
              try simp only [Act.put, List.setIfInBounds_toArray, List.set_cons_zero, List.set_cons_succ]
              refine any_done wyg_end ?_
              go_wp2_with fail
              go_meet
              case rel => exact ⟨_, _, _, rfl, hide REL.out.1, OB, hide REL.out.2.1, hide REL.out.2.2⟩
            · refine any_op rfl (by rfl) (fun K hK => ?_)
              go_simp
              go_wp2_with fail
              refine hK.out _ _ FV ?_
              clear hK K
              try simp only [Act.put, List.setIfInBounds_toArray, List.set_cons_zero, List.set_cons_succ]
              refine any_one wyg_o5119 ?_
              refine any_op rfl (by rfl) (fun K hK => ?_)
              go_simp
              refine SOV.out.mono ?_
              rintro E wa ⟨u, rfl, ou, ba⟩
              obtain ⟨ua, uk, hu, _, _⟩ := ou.is.shape
              subst hu
              have ba0 := bv0.trans (ba.mono bv0.size)
              have Fa := SX.out wa ba0
              have hBa := (ba.block W0.heap.size (blk_lt hBV)).trans hBV
              obtain ⟨wb, hwb, bB, gb, ⟨p0, p1, p2⟩, ⟨f0, f1, f2⟩, ⟨l0, l1, l2⟩⟩ := res_step hBa (.int .i64 ((j : Int) + 1)) (.int .i64 ((j : Int) + 1)) (.slice ua (srt a.l).length uk)
              have bb := below_put ba0 gb (show wr.heap.size ≤ W0.heap.size from b00.size) ba0.size
              have Fw := SX.out wb bb
              have hne : ∀ g, (Value.slice ua (srt a.l).length uk).ownBlock = some g → g ≠ W0.heap.size := fun g hg e => by have h1 := (ou.block g hg).1; have h2 := blk_lt hBV; omega
              have OB : Hid (OwnO 35 wr.heap.size wb (.slice ua (srt a.l).length uk) (srt a.l)) := hide ((ou.kept gb (.inr fun e => hne _ e rfl)).rebase bv0.size)
              have REL := hide (And.intro bB (And.intro bb (show wr.heap.size ≤ W0.heap.size from b00.size)))
              clear ou ba hBa gb hne bB ba0
              go_wp2_with fail
              refine hK.out _ _ Fa ?_
              clear hK K
              try simp only [Act.put, List.setIfInBounds_toArray, List.set_cons_zero, List.set_cons_succ]
              refine any_take (v := ?_) wyg_t6143_11 (by kernel_rfl) (fun _ _ _ _ _ h => h) Fa rfl rfl (by rfl) ?_ ?_
              rotate_left 1
              · intro w hS
                (try dsimp only at hS)
                go_simp
                all_goals with_reducible rfl
              simp only [Act.put, List.setIfInBounds_toArray, List.set_cons_zero, List.set_cons_succ]
              refine any_one wyg_o8191 ?_
              refine any_op rfl (by rfl) (fun K hK => ?_)
              go_simp
              go_wp2_with fail
              refine hK.out _ _ Fw ?_
              clear hK K
              try simp only [Act.put, List.setIfInBounds_toArray, List.set_cons_zero, List.set_cons_succ]
              refine any_done wyg_end ?_
              go_wp2_with fail
              go_meet
              case rel => exact ⟨_, _, _, rfl, hide REL.out.1, OB, hide REL.out.2.1, hide REL.out.2.2⟩
          · refine any_op rfl (by rfl) (fun K hK => ?_)
            go_simp
            go_wp2_with fail
            refine hK.out _ _ FV ?_
            clear hK K
            try simp only [Act.put, List.setIfInBounds_toArray, List.set_cons_zero, List.set_cons_succ]
            refine any_one wyg_o5071 ?_
            refine any_op rfl (by rfl) (fun K hK => ?_)
            go_simp
            refine HENV.out.mono ?_
            rintro E wx ⟨rfl, rfl⟩
            go_wp2_with fail
            refine hK.out _ _ FV ?_
            clear hK K
            try simp only [Act.put, List.setIfInBounds_toArray, List.set_cons_zero, List.set_cons_succ]
            refine any_take (v := ?_) wyg_t5087_5 (by kernel_rfl) (fun _ _ _ _ _ h => h) FV rfl rfl (by rfl) ?_ ?_
            rotate_left 1
            · intro w hS
              (try dsimp only at hS)
              go_simp
              all_goals with_reducible rfl
            simp only [Act.put, List.setIfInBounds_toArray, List.set_cons_zero, List.set_cons_succ]
            refine any_one wyg_o5119 ?_
            refine any_op rfl (by rfl) (fun K hK => ?_)
            go_simp
            refine SOV.out.mono ?_
            rintro E wa ⟨u, rfl, ou, ba⟩
            obtain ⟨ua, uk, hu, _, _⟩ := ou.is.shape
            subst hu
            have ba0 := bv0.trans (ba.mono bv0.size)
            have Fa := SX.out wa ba0
            have hBa := (ba.block W0.heap.size (blk_lt hBV)).trans hBV
            obtain ⟨wb, hwb, bB, gb, ⟨p0, p1, p2⟩, ⟨f0, f1, f2⟩, ⟨l0, l1, l2⟩⟩ := res_step hBa (.int .i64 ((j : Int) + 1)) (.int .i64 ((j : Int) + 1)) (.slice ua (srt a.l).length uk)
            have bb := below_put ba0 gb (show wr.heap.size ≤ W0.heap.size from b00.size) ba0.size
            have Fw := SX.out wb bb
            have hne : ∀ g, (Value.slice ua (srt a.l).length uk).ownBlock = some g → g ≠ W0.heap.size := fun g hg e => by have h1 := (ou.block g hg).1; have h2 := blk_lt hBV; omega
            have OB : Hid (OwnO 35 wr.heap.size wb (.slice ua (srt a.l).length uk) (srt a.l)) := hide ((ou.kept gb (.inr fun e => hne _ e rfl)).rebase bv0.size)
            have REL := hide (And.intro bB (And.intro bb (show wr.heap.size ≤ W0.heap.size from b00.size)))
            clear ou ba hBa gb hne bB ba0
            go_wp2_with fail
            refine hK.out _ _ Fa ?_
            clear hK K
            try simp only [Act.put, List.setIfInBounds_toArray, List.set_cons_zero, List.set_cons_succ]
            refine any_take (v := ?_) wyg_t6143_11 (by kernel_rfl) (fun _ _ _ _ _ h => h) Fa rfl rfl (by rfl) ?_ ?_
            rotate_left 1
            · intro w hS
              (try dsimp only at hS)
              go_simp
              all_goals with_reducible rfl
            simp only [Act.put, List.setIfInBounds_toArray, List.set_cons_zero, List.set_cons_succ]
            refine any_one wyg_o8191 ?_
            refine any_op rfl (by rfl) (fun K hK => ?_)
            go_simp
            go_wp2_with fail
            refine hK.out _ _ Fw ?_
            clear hK K
            try simp only [Act.put, List.setIfInBounds_toArray, List.set_cons_zero, List.set_cons_succ]
            refine any_done wyg_end ?_
            go_wp2_with fail
            go_meet
            case rel => exact ⟨_, _, _, rfl, hide REL.out.1, OB, hide REL.out.2.1, hide REL.out.2.2⟩
        · refine any_op rfl (by rfl) (fun K hK => ?_)
          go_simp
          go_wp2_with fail
          refine hK.out _ _ FV ?_
          clear hK K
          try simp only [Act.put, List.setIfInBounds_toArray, List.set_cons_zero, List.set_cons_succ]
          refine any_one wyg_o5065 ?_
          refine any_op rfl (by rfl) (fun K hK => ?_)
          go_simp
          refine HENV.out.mono ?_
          rintro E wx ⟨rfl, rfl⟩
          go_wp2_with fail
          refine hK.out _ _ FV ?_
          clear hK K
          try simp only [Act.put, List.setIfInBounds_toArray, List.set_cons_zero, List.set_cons_succ]
          refine any_take (v := ?_) wyg_t5067_2 (by kernel_rfl) (fun _ _ _ _ _ h => h) FV rfl rfl (by rfl) ?_ ?_
          rotate_left 1
          · intro w hS
            (try dsimp only at hS)
            go_simp
            all_goals with_reducible rfl
          simp only [Act.put, List.setIfInBounds_toArray, List.set_cons_zero, List.set_cons_succ]
          refine any_one wyg_o5071 ?_
          refine any_op rfl (by rfl) (fun K hK => ?_)
          go_simp
          refine HENV.out.mono ?_
          rintro E wx ⟨rfl, rfl⟩
          go_wp2_with fail
          refine hK.out _ _ FV ?_
          clear hK K
          try simp only [Act.put, List.setIfInBounds_toArray, List.set_cons_zero, List.set_cons_succ]
          refine any_take (v := ?_) wyg_t5087_5 (by kernel_rfl) (fun _ _ _ _ _ h => h) FV rfl rfl (by rfl) ?_ ?_
          rotate_left 1
          · intro w hS
            (try dsimp only at hS)
            go_simp
            all_goals with_reducible rfl
          simp only [Act.put, List.setIfInBounds_toArray, List.set_cons_zero, List.set_cons_succ]
          refine any_one wyg_o5119 ?_
          refine any_op rfl (by rfl) (fun K hK => ?_)
          go_simp
          refine SOV.out.mono ?_
          rintro E wa ⟨u, rfl, ou, ba⟩
          obtain ⟨ua, uk, hu, _, _⟩ := ou.is.shape
          subst hu
          have ba0 := bv0.trans (ba.mono bv0.size)
          have Fa := SX.out wa ba0
          have hBa := (ba.block W0.heap.size (blk_lt hBV)).trans hBV
          obtain ⟨wb, hwb, bB, gb, ⟨p0, p1, p2⟩, ⟨f0, f1, f2⟩, ⟨l0, l1, l2⟩⟩ := res_step hBa (.int .i64 ((j : Int) + 1)) (.int .i64 ((j : Int) + 1)) (.slice ua (srt a.l).length uk)
          have bb := below_put ba0 gb (show wr.heap.size ≤ W0.heap.size from b00.size) ba0.size
          have Fw := SX.out wb bb
          have hne : ∀ g, (Value.slice ua (srt a.l).length uk).ownBlock = some g → g ≠ W0.heap.size := fun g hg e => by have h1 := (ou.block g hg).1; have h2 := blk_lt hBV; omega
          have OB : Hid (OwnO 35 wr.heap.size wb (.slice ua (srt a.l).length uk) (srt a.l)) := hide ((ou.kept gb (.inr fun e => hne _ e rfl)).rebase bv0.size)
          have REL := hide (And.intro bB (And.intro bb (show wr.heap.size ≤ W0.heap.size from b00.size)))
          clear ou ba hBa gb hne bB ba0
          go_wp2_with fail
          refine hK.out _ _ Fa ?_
          clear hK K
          try simp only [Act.put, List.setIfInBounds_toArray, List.set_cons_zero, List.set_cons_succ]
          refine any_take (v := ?_) wyg_t6143_11 (by kernel_rfl) (fun _ _ _ _ _ h => h) Fa rfl rfl (by rfl) ?_ ?_
          rotate_left 1
          · intro w hS
            (try dsimp only at hS)
            go_simp
            all_goals with_reducible rfl
          simp only [Act.put, List.setIfInBounds_toArray, List.set_cons_zero, List.set_cons_succ]
          refine any_one wyg_o8191 ?_
          refine any_op rfl (by rfl) (fun K hK => ?_)
          go_simp
          go_wp2_with fail
          refine hK.out _ _ Fw ?_
          clear hK K
          try simp only [Act.put, List.setIfInBounds_toArray, List.set_cons_zero, List.set_cons_succ]
          refine any_done wyg_end ?_
          go_wp2_with fail
          go_meet
          case rel => exact ⟨_, _, _, rfl, hide REL.out.1, OB, hide REL.out.2.1, hide REL.out.2.2⟩
      case rest =>
        obtain ⟨X, ua, uk, rfl, HBB, OB, BAB, HX⟩ := hcut
        have hck := srt_chk a.l (by omega) ((j : Int) + 1) (by omega) (by omega)
        have FR := hide (fit_run hck)
        have HCK := hide hck
        have x5 : wc.cell? ⟨X, 0, none⟩ = some (.int .i64 ((j : Int) + 1)) := blk_cell HBB.out 0 rfl
        have x6 : wc.cell? ⟨X, 1, none⟩ = some (.int .i64 ((j : Int) + 1)) := blk_cell HBB.out 1 rfl
        have x7 : wc.cell? ⟨X, 2, none⟩ = some (.slice ua (srt a.l).length uk) := blk_cell HBB.out 2 rfl
        have EN := hide (henc_any ((j : Int) + 1) ((j : Int) + 1) _ _ wc OB.out.is FR.out.1 (by have := FR.out.2.2.2.2; omega))
        rw [hck, Rn.out_ok hck] at EN
        unfold cmv at EN
        clear hck d0
        go_wp2_with fail
        refine EN.out.mono ?_
        rintro E w5 ⟨vb, rfl, ob, b5⟩
        obtain ⟨va, vk9, hvb, _, _⟩ := ob.is.shape
        subst hvb
        have DE := hide (hdec_any _ _ w5 ob.is (by have := Rn.encR_small HCK.out; omega))
        have B5 := hide b5
        clear EN b5 x5 x6 x7 ob
        go_wp2_with fail
        refine DE.out.mono ?_
        rintro E w6 ⟨yf, yu, yg, vy, yl, rfl, oy, DC, b6⟩
        obtain ⟨rfl, rfl, rfl, rfl⟩ := Rn.dc_one (show Rn.Dc _ ((j : Int) + 1) ((j : Int) + 1) (srt a.l) 0 from .inl ⟨rfl, HCK.out, rfl⟩) DC.out
        obtain ⟨ya, yk, hvy, _, _⟩ := oy.is.shape
        subst hvy
        unfold cmv
        obtain ⟨we, hwe, _, sze, bele, bY, y5, y6, y7⟩ := new_step w6 32 (.int .i64 0) (.int .i64 0) (.slice none 0 0) (.int .i64 ((j : Int) + 1)) (.int .i64 ((j : Int) + 1)) (.slice ya (srt a.l).length yk)
        have B6 := B5.out.trans (b6.mono B5.out.size)
        have bCE := B6.trans (bele.mono B6.size)
        have BRE := hide (BAB.out.trans (bCE.mono BAB.out.size))
        have OE := hide (OB.out.below bCE)
        have OYE := hide (oy.below bele)
        have SZ6 := hide (show wr.heap.size ≤ w6.heap.size from Nat.le_trans BAB.out.size B6.size)
        have XY : Hid (∀ W, Below we.heap.size we W → W.heap[X]? = some (.cells #[.int .i64 ((j : Int) + 1), .int .i64 ((j : Int) + 1), .slice ua (srt a.l).length uk] 32 (0, 0)) ∧ W.heap[w6.heap.size]? = some (.cells #[.int .i64 ((j : Int) + 1), .int .i64 ((j : Int) + 1), .slice ya (srt a.l).length yk] 32 (0, 0))) := hide fun W hW => by
          have q0 := (bCE.block X (blk_lt HBB.out)).trans HBB.out
          exact ⟨(hW.block X (blk_lt q0)).trans q0, (hW.block w6.heap.size (blk_lt bY)).trans bY⟩
        have SC : Hid (∀ W : World, W.heap[X]? = some (.cells #[.int .i64 ((j : Int) + 1), .int .i64 ((j : Int) + 1), .slice ua (srt a.l).length uk] 32 (0, 0)) ∧ W.heap[w6.heap.size]? = some (.cells #[.int .i64 ((j : Int) + 1), .int .i64 ((j : Int) + 1), .slice ya (srt a.l).length yk] 32 (0, 0)) → (W.cell? ⟨X, 0, none⟩ = some (.int .i64 ((j : Int) + 1)) ∧ W.cell? ⟨X, 1, none⟩ = some (.int .i64 ((j : Int) + 1)) ∧ W.cell? ⟨X, 2, none⟩ = some (.slice ua (srt a.l).length uk)) ∧ (W.cell? ⟨w6.heap.size, 0, none⟩ = some (.int .i64 ((j : Int) + 1)) ∧ W.cell? ⟨w6.heap.size, 1, none⟩ = some (.int .i64 ((j : Int) + 1)) ∧ W.cell? ⟨w6.heap.size, 2, none⟩ = some (.slice ya (srt a.l).length yk))) := hide fun W hW => ⟨⟨blk_cell hW.1 0 rfl, blk_cell hW.1 1 rfl, blk_cell hW.1 2 rfl⟩, ⟨blk_cell hW.2 0 rfl, blk_cell hW.2 1 rfl, blk_cell hW.2 2 rfl⟩⟩
        have A7 : Hid (∀ W, Below we.heap.size we W → ∀ v1 v2, OwnR 32 we.heap.size W v1 [⟨(j : Int) + 1, (j : Int) + 1, .slice ua (srt a.l).length uk, srt a.l⟩] → OwnR 32 we.heap.size W v2 [⟨(j : Int) + 1, (j : Int) + 1, .slice ya (srt a.l).length yk, srt a.l⟩] → Calls Try.prog 23 #[v1, v2] W fun E w' => E = .returned (.bool true) ∧ Below W.heap.size W w') := hide fun W hW v1 v2 r1 r2 => by
          obtain ⟨g1, g2, g3, g4, g5⟩ := FR.out
          have := sameRs_any v1 v2 [⟨(j : Int) + 1, (j : Int) + 1, .slice ua (srt a.l).length uk, srt a.l⟩] [⟨(j : Int) + 1, (j : Int) + 1, .slice ya (srt a.l).length yk, srt a.l⟩] W ⟨r1.row, fun d hd => by rw [List.mem_singleton.1 hd]; exact ⟨(OE.out.below hW).is, g3, g4⟩⟩ ⟨r2.row, fun d hd => by rw [List.mem_singleton.1 hd]; exact ⟨(OYE.out.below hW).is, g3, g4⟩⟩ (fun d hd => by rw [List.mem_singleton.1 hd]; exact ⟨g1, g2⟩) (fun d hd => by rw [List.mem_singleton.1 hd]; exact ⟨g1, g2⟩) (by simp) (by simp)
          rw [show cvs [⟨(j : Int) + 1, (j : Int) + 1, .slice ua (srt a.l).length uk, srt a.l⟩] = cvs [⟨(j : Int) + 1, (j : Int) + 1, .slice ya (srt a.l).length yk, srt a.l⟩] from rfl, sameV_self] at this
          exact this
        have RB : Hid (RBig s) := hide (rbig_of BR.out (by omega) (by omega))
        have FUS := hide (Rl.flu_safe NR.out SR.out ⟨(j : Int) + 1, (j : Int) + 1, srt a.l⟩ HCK.out (by rw [LR.out.2]; show (j : Int) + 1 - 1 = j; omega))
        have BN : Hid (Big (52236 * (j + 1)) (818 * (j + 1)) (Rl.flu s ⟨(j : Int) + 1, (j : Int) + 1, srt a.l⟩).2.d) := hide ((big_flu (c := ⟨(j : Int) + 1, (j : Int) + 1, srt a.l⟩) BR.out).mono (by omega) (by omega))
        have LN : Hid ((la ++ [(⟨(j : Int) + 1, (j : Int) + 1, srt a.l⟩ : Cm.Cv)]).length = j + 1 ∧ Cm.lastN 0 (la ++ [(⟨(j : Int) + 1, (j : Int) + 1, srt a.l⟩ : Cm.Cv)]) = ((j + 1 : Nat) : Int)) := hide ⟨by rw [List.length_append, LR.out.1]; rfl, by rw [Rl.last_snoc]; show (j : Int) + 1 = _; omega⟩
        have FZ : Hid (Bm.first (srt a.l) = 0) := hide (Bm.first_all (srt_is a.l).2.1)
        have AFT : Hid (Tm.aft (Rl.tab la) (srt a.l) = Rl.tab (la ++ [⟨(j : Int) + 1, (j : Int) + 1, srt a.l⟩])) := hide (by unfold Tm.aft; rw [if_pos FZ.out, Rl.tab_snoc])
        have TLN : Hid ((Rl.tab (la ++ [⟨(j : Int) + 1, (j : Int) + 1, srt a.l⟩])).length ≤ 40 * (j + 1)) := hide (by
          rw [Rl.tab_snoc]
          have h1 := app_len (srt a.l) (Rl.tab la)
          have h2 := (srt_is a.l).2.2
          have h3 := TL.out
          show (Tm.app (Rl.tab la) (srt a.l)).length ≤ _
          omega)
        obtain ⟨P1, hP1, zP1, bP1, rP1⟩ := coms_step 32 we #[.int .i64 ((j : Int) + 1), .int .i64 ((j : Int) + 1), .slice ua (srt a.l).length uk] 1 [⟨(j : Int) + 1, (j : Int) + 1, .slice ua (srt a.l).length uk, srt a.l⟩] rfl rfl (by simp [maxLen])
        obtain ⟨P2, hP2, zP2, eP3, rP2⟩ := coms_step 32 P1 #[.int .i64 ((j : Int) + 1), .int .i64 ((j : Int) + 1), .slice ya (srt a.l).length yk] 1 [⟨(j : Int) + 1, (j : Int) + 1, .slice ya (srt a.l).length yk, srt a.l⟩] rfl rfl (by simp [maxLen])
        have eP2 : Below we.heap.size we P2 := bP1.trans (eP3.mono bP1.size)
        have XA := hide (A7.out P2 eP2 _ _ (rP1.below eP3) (row_rebase rP2 bP1.size))
        rw [zP1, sze] at XA
        obtain ⟨⟨g0, g1, g2⟩, g3, g4, g5⟩ := SC.out we (XY.out we (Below.refl _ _))
        obtain ⟨⟨k0, k1, k2⟩, k3, k4, k5⟩ := SC.out P1 (XY.out P1 bP1)
        clear DE A7 b6 bele bY y5 y6 y7 B6 bCE oy rP1 rP2 bP1 eP3
        go_wp2_with fail
        refine XA.out.mono ?_
        rintro E Ws ⟨rfl, bs⟩
        have bWs : Below we.heap.size we Ws := eP2.trans (bs.mono eP2.size)
        have bCs : Hid (Below wr.heap.size wr Ws) := hide (BRE.out.trans (bWs.mono BRE.out.size))
        have HXS := hide (XY.out Ws bWs)
        obtain ⟨⟨GS0, GS1, GS2⟩, GS3, GS4, GS5⟩ := SC.out Ws HXS.out
        have OS := hide (OE.out.below bWs)
        have TS := hide (TR.out.below bCs.out)
        have KS0 := hide (KR.out.below bCs.out)
        have FL := hide (KS0.out.flushed RB.out ⟨(j : Int) + 1, (j : Int) + 1, .slice ua (srt a.l).length uk, srt a.l⟩ ⟨_, OS.out, KR.out.rw.lt⟩ FR.out.1 ⟨FR.out.2.2.1, FR.out.2.2.2.1⟩ FR.out.2.1)
        simp only [Cw.c] at FL
        rw [FUS.out.1] at FL
        clear bs bWs
        clear g0 g1 g2 g3 g4 g5 k0 k1 k2 k3 k4 k5 XA
        go_wp2_with fail
        refine FL.out.mono ?_
        rintro E wf ⟨rfl, Ff, KF, of, nf⟩
        have FLT := KR.out.rw.lt
        have HXf := hide (And.intro ((of.block X (blk_lt HXS.out.1) (fun e => by have h1 := FLT _ e; have h2 := HX.out; omega)).trans HXS.out.1) ((of.block w6.heap.size (blk_lt HXS.out.2) (fun e => by have h1 := FLT _ e; have h2 := SZ6.out; omega)).trans HXS.out.2))
        obtain ⟨⟨GF0, GF1, GF2⟩, GF3, GF4, GF5⟩ := SC.out wf HXf.out
        have NFf : Hid (¬ Ff pt ∧ ¬ Ff bt) := hide ⟨fun e => by rcases nf pt e with e | e; exact NF.out.1 e; have := TS.out.plt; omega, fun e => by rcases nf bt e with e | e; exact NF.out.2 e; have := TS.out.blt; omega⟩
        have TF := TS.out.outF of NF.out.1 NF.out.2
        have OF := OS.out.agree fun g hg => of.block g (OS.out.block g hg).2 fun hf => by have h1 := (OS.out.block g hg).1; have h2 := FLT g hf; omega
        have AP := hide (tapply_any pt bt wf (Rl.tab la) _ (srt a.l) TF OF.is FR.out.1 (by have := TL.out; have := (srt_is a.l).2.2; omega))
        rw [FZ.out, AFT.out] at AP
        have KFh := hide KF
        clear KF of nf TF OF FLT FL
        clear GS0 GS1 GS2 GS3 GS4 GS5
        go_wp2_with fail
        refine AP.out.mono ?_
        rintro E wg ⟨rfl, Tg, og⟩
        have hbt := TR.out.blt
        have KG := hide (KFh.out.outT og NFf.out.2 PT.out)
        have TG := hide Tg
        clear Tg og AP hbt
        clear hP1 hP2 zP1 zP2
        go_wp2
        go_roundw
        case rel => exact ⟨j + 1, _, _, _, by omega, by go_num, KG, hide FUS.out.2.1, hide FUS.out.2.2, BN, LN, TG, TLN, NFf⟩
        case measure => simp [intOf]; omega
    · obtain rfl : j = r.length := by omega
      have hlt' : ¬ (r.length : Int) < r.length := by omega
      have HPU := hide (KR.out.pulled NR.out.on)
      have BD := hide (big_dark BR.out)
      go_wp2_with fail
      refine HPU.out.mono ?_
      rintro E wp ⟨rfl, Fp, KP, op, np⟩
      have NFp := ns_step NF.out np TR.out
      have TP := TR.out.outF op NF.out.1 NF.out.2
      have HST := hide (KP.started k t hk1 ht1 i2.2 rfl (BD.out.mono (by omega) (by omega)))
      have TPH := hide TP
      have NPH := hide NFp
      clear HPU KR KP op np TR NF NFp TP BD
      go_wp2_with fail
      refine HST.out.mono ?_
      rintro E wz ⟨rfl, st, ⟨Fz, KZ, oz, nz⟩, SZ⟩
      have NFz := ns_step NPH.out nz TPH.out
      have TZ := TPH.out.outF oz NPH.out.1 NPH.out.2
      have HOP := hide (KZ.opened (SZ.big.mono (by decide) (by decide)) SZ.on SZ.has)
      have HLD := hide SZ.hld
      have TZH := hide TZ
      have NZH := hide NFz
      clear HST KZ SZ oz nz TPH NPH NFz TZ
      go_wp2_with fail
      refine HOP.out.mono ?_
      rintro E wo ⟨p2, F2, m, rfl, K2, o2, n2, LG⟩
      have hml : m = la := Rl.kend_same NR.out.fin (by have h1 := LG.out; rw [HLD.out] at h1; exact h1)
      subst hml
      have TO := hide (TZH.out.outF o2 NZH.out.1 NZH.out.2)
      have HK2 := hide K2
      have HEN := hide (hrend_any p2 q F2 wo _ K2.rw)
      rw [show Cm.lastN 0 (Rl.Rs.mk (ropD st m) m false).l = r.length from LR.out.2] at HEN
      clear HOP K2 LG o2 n2 TZH NZH HLD
      go_wp2_with fail
      refine HEN.out.mono ?_
      rintro E wy ⟨rfl, rfl⟩
      clear HEN
      go_wp2
      go_loopw [20] (fun iv wr => ∃ (i : Nat), i ≤ ks.length ∧ iv = .int .i64 i ∧ Hid (Below wo.heap.size wo wr)) (fun iv _ => ks.length - (intOf iv).toNat)
      case atStart => exact ⟨0, by omega, rfl, hide (Below.refl _ _)⟩
      case round =>
        obtain ⟨i, hi, rfl, BI⟩ := hrel
        by_cases hil : i < ks.length
        · obtain ⟨b2, o2, cq2, hvx2, _, _, _, hcell2⟩ := IsS.full (RowG.below (RowG.below HK1.out HK2.out.bel) BI.out) (by omega)
          simp only [Value.slice.injEq, true_and] at hvx2
          obtain ⟨rfl, rfl⟩ := hvx2
          obtain ⟨key, hkey⟩ : ∃ a, ks[i]? = some a := ⟨ks[i], by rw [List.getElem?_eq_getElem]⟩
          have d0 := hcell2 i key hkey
          have hks := HFK.out key (List.mem_of_getElem? hkey)
          have hil' : (i : Int) < ks.length := by omega
          have hi0 : (0 : Int) ≤ i := by omega
          have HG := hide (hget_any p2 q F2 _ _ key (HK2.out.below BI.out).rw)
          have DD := hide (IsS.full (RowG.below (RowG.below HK1.out HK2.out.bel) BI.out) (by omega))
          have d1 : Hid (∀ W, Below wr.heap.size wr W → W.cell? ⟨b2, o2 + i, none⟩ = some (.string key)) := hide fun W hW => (hW.cell (p := ⟨b2, o2 + i, none⟩) (World.block_lt_of_cell? _ _ d0)).trans d0
          clear hcell2 hkey DD
          go_wp2_with fail
          refine HG.out.mono ?_
          rintro E w7 ⟨rfl, b7⟩
          have B7 := hide (BI.out.trans (b7.mono BI.out.size))
          have e7 := d1.out w7 b7
          have HT := hide (tget_any pt bt w7 _ key (TO.out.below B7.out) (by omega))
          clear HG d0 d1 b7
          go_wp2_with fail
          refine HT.out.mono ?_
          rintro E w8 ⟨rfl, b8⟩
          have B8 := hide (B7.out.trans (b8.mono B7.out.size))
          generalize gv (Rl.tab m) key = g1
          generalize Tm.met (Rl.tab m) key = g2
          generalize gp (Rl.tab m) key = g3
          clear HT b8 e7 B7
          go_wp2
          go_roundw
          case rel => exact ⟨i + 1, by omega, by go_num, B8⟩
          case measure => simp [intOf]; omega
        · obtain rfl : i = ks.length := by omega
          have hil' : ¬ (ks.length : Int) < ks.length := by omega
          go_wp2
          go_ret
          have q1 := HK2.out.bel
          exact ⟨rfl, B1.out.trans ((q1.trans (BI.out.mono q1.size)).mono B1.out.size)⟩

end Go.Proofs.Ythchcnflflafeaa

/- Proved: RunTable -/
namespace Go.Proofs.Ythchcnflflafeaa
open Go.ChangeShapes Go.WideShapes Go.ChangeAt Go.RowKit
open Go.ChangeMaps (open_string shut_string)
set_option linter.unusedVariables false

namespace runTableFrame
theorem own : ownKnob Try.prog.godebug = none := by kernel_rfl
theorem laidOut : laidOutB Try.prog = true := by kernel_rfl
theorem cells30 : Try.prog.cellsOf 30 = 1 := by kernel_rfl
theorem bytes30 : Try.prog.bytesOf 30 = 24 := by kernel_rfl
theorem cells35 : Try.prog.cellsOf 35 = 3 := by kernel_rfl
theorem bytes35 : Try.prog.bytesOf 35 = 40 := by kernel_rfl
theorem cells9 : Try.prog.cellsOf 9 = 1 := by kernel_rfl
theorem bytes9 : Try.prog.bytesOf 9 = 16 := by kernel_rfl

set_option maxRecDepth 100000 in
theorem lifted (os : Os) (started : os.Started) (H : Type) (enc : TypeId × Value → H) :
    ReturnsInHanded {} Try.checked os 6 .any (Rows.runTableSpec.pre6 enc Try.prog Try.f6 Rows.runTableRow.domain false) (Rows.runTableSpec.post enc Try.prog Try.f6 false true false false) := by
  refine returnsInHanded_of_change_sized (C := Try.checked) own started (by kernel_rfl) Try.func6
    (ChangeSpec.witness6 (enc := enc) (C := Try.checked) false ⟨#[], #[.slice none 0 0, .slice none 0 0, .int .i64 0, .int .i64 0], []⟩ 8 (by kernel_rfl) (by kernel_rfl) (by kernel_rfl) (by kernel_rfl)) ?_
  intro W base args ds gs before hval0 hW hcnd hsz0 _
  have hsz : (DataW.weightsEach Try.prog (Try.f6.params.toList ++ Rows.runTableSpec.plain.varTypes Try.prog) (ds ++ gs)).all (· ≤ reachBytes) = true := hsz0
  clear hsz0
  have hval : ∀ (j : Nat) t v, Try.f6.params[j]? = some t → args[j]? = some v → Value.okWide Try.prog W .any base t v := hval0
  have hW' := hW
  obtain ⟨p, q, hA0, hV, rfl, hfz, hnd⟩ := hW
  have hA : DataW.TrodAll enc Try.prog W 0 (fun _ => true) true Try.f6.params.toList args.toList ds p := hA0
  rw [Try.params6] at hA hval hsz
  obtain ⟨v0, vs0, d0, ds0, p0, q0, hargs, rfl, rfl, h0, r0⟩ := trodAll_cons hA
  obtain ⟨v1, vs1, d1, ds1, p1, q1, rfl, rfl, rfl, h1, r1⟩ := trodAll_cons r0
  obtain ⟨v2, vs2, d2, ds2, p2, q2, rfl, rfl, rfl, h2, r2⟩ := trodAll_cons r1
  obtain ⟨v3, vs3, d3, ds3, p3, q3, rfl, rfl, rfl, h3, r3⟩ := trodAll_cons r2
  obtain ⟨rfl, rfl, rfl⟩ := trodAll_nil r3
  obtain rfl : args = #[v0, v1, v2, v3] := by cases args; simp_all
  obtain ⟨rfl, rfl⟩ := trodVars_none hV
  obtain ⟨a0, len0, cap0, rfl⟩ := okWide_slice Try.underlying52 (hval 0 52 v0 rfl rfl)
  have k0 := h0
  have lt0 : ∀ x ∈ p0, x.block < W.heap.size := by obtain ⟨m, hm⟩ := k0; exact DataW.trod_lt m _ _ _ hm
  obtain ⟨z0, w0, g0, b0⟩ : ∃ r, IsLL W (.slice a0 len0 cap0) r ∧ FitL r ∧ r.length * 24 ≤ 140737488351232 := by
    obtain ⟨fuel, hf⟩ := h0
    have hf' : DataW.trod enc Try.prog W 0 (fun _ => true) true fuel 52 [.slice a0 len0 cap0] = some (d0, p0) := by simpa [Value.cells] using hf
    obtain ⟨r, hr, hd⟩ := open_lists Try.underlying52 Try.underlying30 cells30 Try.underlying35 (by kernel_rfl) cells35 Try.underlying4 Try.underlying9 Try.underlying9 hf'
    rcases hd with ⟨_, rfl⟩ | ⟨es, sp, hd, hln, hes⟩
    · exact ⟨[], hr, fun c hc => by simp at hc, by simp⟩
    · simp only at hd
      rw [hd] at hsz
      obtain ⟨h1, h2⟩ := sized_lists hsz (j := 0) (t := 52) (e := 30) rfl rfl hln hes Try.underlying52 Try.underlying30 bytes30 Try.underlying35 bytes35
      exact ⟨r, hr, h1, h2⟩
  obtain ⟨a1, len1, cap1, rfl⟩ := okWide_slice Try.underlying64 (hval 1 64 v1 rfl rfl)
  have k1 := h1
  have lt1 : ∀ x ∈ p1, x.block < W.heap.size := by obtain ⟨m, hm⟩ := k1; exact DataW.trod_lt m _ _ _ hm
  obtain ⟨z1, w1, g1, b1⟩ : ∃ r, IsS W (.slice a1 len1 cap1) r ∧ FitS r ∧ r.length * 16 ≤ 140737488351232 := by
    obtain ⟨fuel, hf⟩ := h1
    have hf' : DataW.trod enc Try.prog W 0 (fun _ => true) true fuel 64 [.slice a1 len1 cap1] = some (d1, p1) := by simpa [Value.cells] using hf
    obtain ⟨r, hr, hd⟩ := open_strs Try.underlying64 Try.underlying9 cells9 hf'
    rcases hd with ⟨_, rfl⟩ | ⟨es, sp, hd, hln, hes⟩
    · exact ⟨[], hr, fun c hc => by simp at hc, by simp⟩
    · simp only at hd
      rw [hd] at hsz
      obtain ⟨h1, h2⟩ := sized_strs hsz (j := 1) (t := 64) (e := 9) rfl rfl hln hes Try.underlying64 Try.underlying9 bytes9
      exact ⟨r, hr, h1, h2⟩
  obtain ⟨a2, rfl, rfl, rfl, w2⟩ := open_int Try.underlying3 (hval 2 3 v2 rfl rfl) h2
  obtain ⟨a3, rfl, rfl, rfl, w3⟩ := open_int Try.underlying3 (hval 3 3 v3 rfl rfl) h3
  clear hA0 hval0
  refine (runTable_walk _ z0 _ z1 a2 a3 W w0 g0 b0 w1 g1 b1 w2 w3).mono fun e W' ⟨he, bel⟩ => ?_
  subst he
  exact ⟨_, rfl, _, _, _, [], _, [], hW', trodAll_mk1 (shut_bool Try.underlying4 _), (trodAll_cons_mk (Below.trod laidOut (by kernel_rfl) (of_decide_eq_true (by kernel_rfl)) k0 bel lt0) (trodAll_cons_mk (Below.trod laidOut (by kernel_rfl) (of_decide_eq_true (by kernel_rfl)) k1 bel lt1) (trodAll_cons_mk (shut_int Try.underlying3 w2) (trodAll_cons_mk (shut_int Try.underlying3 w3) trodAll_mk0)))), rfl, bel.frame _, fun h => by cases h⟩

theorem over : Rows.runTableRow.holds Try.pinned (OpenSpec.ofChange Rows.runTableSpec) :=
  OpenClaim.holds_of_wide 6 Try.f6 rfl rfl rfl rfl rfl rfl rfl ⟨rfl, rfl, rfl, rfl, rfl⟩ rfl rfl rfl rfl rfl (by kernel_rfl) Try.func6 (by kernel_rfl)
    (of_decide_eq_true (by kernel_rfl)) (by unfold Func.isWrapper; first | (rw [if_pos (by decide +kernel)]; kernel_rfl) | (rw [if_neg (by decide +kernel)]; exact ⟨rfl, rfl⟩))
    (fun os started H enc _ => lifted os started H enc)
end runTableFrame

/-- The statement. -/
theorem runTable_holds : Rows.RunTableSaid := runTableFrame.over
#print axioms runTable_holds
end Go.Proofs.Ythchcnflflafeaa
