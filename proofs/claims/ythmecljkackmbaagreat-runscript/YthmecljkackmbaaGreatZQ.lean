/- Texts of one layer, one behind the other. -/
import Derived.Test.YthmecljkackmbaaGreatZW
import Derived.Test.YthmecljkackmbaaGreatProg
import Derived.Test.YthmecljkackmbaaGreatZJY
import Derived.Test.YthmecljkackmbaaGreatZJX
import Derived.Test.YthmecljkackmbaaGreatZF
import Derived.Test.YthmecljkackmbaaGreatZJ5
import Derived.Test.YthmecljkackmbaaGreatRows
import Derived.ProofKit
import Derived.OpenShut
import Derived.ShutString
import Derived.ChangeOld
import Derived.Below
import Derived.SizedLaws
/- The steps of a region of RunScript's. -/
namespace Go.Proofs.YthmecljkackmbaaGreat
open Go.RowKit
set_option linter.unusedVariables false

theorem wzl_new : Array.replicate 13 false = lst 13 0 := by kernel_rfl

theorem wzl_size : (regOf 14 Tryz.f8).size = 13 := by kernel_rfl

theorem wzl_t0_0 : Region.free .any (regOf 14 Tryz.f8) (lst 13 0) 0 = true ∧ (Region.ready .any (regOf 14 Tryz.f8) (lst 13 0)).contains 0 = true ∧ (lst 13 0).setIfInBounds 0 true = lst 13 1 := ⟨by kernel_rfl, by kernel_rfl, by kernel_rfl⟩

theorem wzl_t1_1 : Region.free .any (regOf 14 Tryz.f8) (lst 13 1) 1 = true ∧ (Region.ready .any (regOf 14 Tryz.f8) (lst 13 1)).contains 1 = true ∧ (lst 13 1).setIfInBounds 1 true = lst 13 3 := ⟨by kernel_rfl, by kernel_rfl, by kernel_rfl⟩

theorem wzl_t3_2 : Region.free .any (regOf 14 Tryz.f8) (lst 13 3) 2 = true ∧ (Region.ready .any (regOf 14 Tryz.f8) (lst 13 3)).contains 2 = true ∧ (lst 13 3).setIfInBounds 2 true = lst 13 7 := ⟨by kernel_rfl, by kernel_rfl, by kernel_rfl⟩

theorem wzl_t7_3 : Region.free .any (regOf 14 Tryz.f8) (lst 13 7) 3 = true ∧ (Region.ready .any (regOf 14 Tryz.f8) (lst 13 7)).contains 3 = true ∧ (lst 13 7).setIfInBounds 3 true = lst 13 15 := ⟨by kernel_rfl, by kernel_rfl, by kernel_rfl⟩

theorem wzl_t15_5 : Region.free .any (regOf 14 Tryz.f8) (lst 13 15) 5 = true ∧ (Region.ready .any (regOf 14 Tryz.f8) (lst 13 15)).contains 5 = true ∧ (lst 13 15).setIfInBounds 5 true = lst 13 47 := ⟨by kernel_rfl, by kernel_rfl, by kernel_rfl⟩

theorem wzl_t47_6 : Region.free .any (regOf 14 Tryz.f8) (lst 13 47) 6 = true ∧ (Region.ready .any (regOf 14 Tryz.f8) (lst 13 47)).contains 6 = true ∧ (lst 13 47).setIfInBounds 6 true = lst 13 111 := ⟨by kernel_rfl, by kernel_rfl, by kernel_rfl⟩

theorem wzl_t111_7 : Region.free .any (regOf 14 Tryz.f8) (lst 13 111) 7 = true ∧ (Region.ready .any (regOf 14 Tryz.f8) (lst 13 111)).contains 7 = true ∧ (lst 13 111).setIfInBounds 7 true = lst 13 239 := ⟨by kernel_rfl, by kernel_rfl, by kernel_rfl⟩

theorem wzl_t239_8 : Region.free .any (regOf 14 Tryz.f8) (lst 13 239) 8 = true ∧ (Region.ready .any (regOf 14 Tryz.f8) (lst 13 239)).contains 8 = true ∧ (lst 13 239).setIfInBounds 8 true = lst 13 495 := ⟨by kernel_rfl, by kernel_rfl, by kernel_rfl⟩

theorem wzl_t495_12 : Region.free .any (regOf 14 Tryz.f8) (lst 13 495) 12 = true ∧ (Region.ready .any (regOf 14 Tryz.f8) (lst 13 495)).contains 12 = true ∧ (lst 13 495).setIfInBounds 12 true = lst 13 4591 := ⟨by kernel_rfl, by kernel_rfl, by kernel_rfl⟩

theorem wzl_r4591 : Region.ready .any (regOf 14 Tryz.f8) (lst 13 4591) = [4] ∧ (lst 13 4591).setIfInBounds 4 true = lst 13 4607 := ⟨by kernel_rfl, by kernel_rfl⟩

theorem wzl_r4607 : Region.ready .any (regOf 14 Tryz.f8) (lst 13 4607) = [9] ∧ (lst 13 4607).setIfInBounds 9 true = lst 13 5119 := ⟨by kernel_rfl, by kernel_rfl⟩

theorem wzl_r5119 : Region.ready .any (regOf 14 Tryz.f8) (lst 13 5119) = [10] ∧ (lst 13 5119).setIfInBounds 10 true = lst 13 6143 := ⟨by kernel_rfl, by kernel_rfl⟩

theorem wzl_t6143_11 : Region.free .any (regOf 14 Tryz.f8) (lst 13 6143) 11 = true ∧ (Region.ready .any (regOf 14 Tryz.f8) (lst 13 6143)).contains 11 = true ∧ (lst 13 6143).setIfInBounds 11 true = lst 13 8191 := ⟨by kernel_rfl, by kernel_rfl, by kernel_rfl⟩

theorem wzl_end : Region.ready .any (regOf 14 Tryz.f8) (lst 13 8191) = [] := by kernel_rfl

end Go.Proofs.YthmecljkackmbaaGreat

/- RunScript: whatever is done to the runs on a disk, they answer and hold what the document says. -/
namespace Go.Proofs.YthmecljkackmbaaGreat
open Go.RowKit
open Bm (Ov)
set_option linter.unusedVariables false

set_option maxRecDepth 20000 in
set_option maxHeartbeats 16000000 in
theorem runScript_walk (vl : Value) (l : List Ac) (vk : Value) (ks : List ByteArray) (w : World) (hq : IsQ w vl l) (hfq : FitQ l) (hlq : l.length * 64 ≤ 140737488351232) (hks : IsS w vk ks) (hkf : FitS ks) (hkl : ks.length * 16 ≤ 140737488351232) :
    Calls Tryz.prog 8 #[vl, vk] w fun e w' => e = .returned (.bool true) ∧ Below w.heap.size w w' := by
  have HQ := hide hq
  have HFQ := hide hfq
  have HK := hide hks
  obtain ⟨qa, qc, hvl, _, _⟩ := hq.1.shape
  obtain ⟨ka, kc, hvk, _, _⟩ := hks.shape
  have HS : Hid (∀ W, Below w.heap.size w W → Calls Tryz.prog 42 #[vl] W fun E w' => E = .returned (.bool (smQ l)) ∧ W = w') := hide fun W hb => qsmall_any vl l W (hq.below hb) (by omega) hfq
  subst hvl hvk
  clear hq hfq hks hkf
  go_enter Tryz.func8, Tryz.ntmps8
  go_wp2_with fail
  refine (lives_any w).mono ?_
  rintro E w1 ⟨rfl, b1⟩
  have B1 := hide b1
  have HS1 := hide (HS.out w1 b1)
  obtain ⟨sm, hsm⟩ : ∃ x, smQ l = x := ⟨_, rfl⟩
  rw [hsm] at HS1
  clear b1 HS
  go_wp2_with fail
  refine HS1.out.mono ?_
  rintro E w' ⟨rfl, rfl⟩
  cases sm with
  | false =>
    go_wp2
    go_ret
    exact ⟨rfl, B1.out⟩
  | true =>
    by_cases hk20 : (20 : Int) < ks.length
    · clear HS1 HQ hsm HK
      go_wp2
      go_ret
      exact ⟨rfl, B1.out⟩
    have hk2 : ks.length ≤ 20 := by omega
    obtain ⟨hll, hal⟩ := smQ_len hsm
    have HAL := hide hal
    have HQ1 := hide (HQ.out.below B1.out)
    have HK1 : Hid (IsS w1 (.slice ka ks.length kc) ks) := hide (HK.out.below B1.out)
    clear HS1 HQ hsm HK hal
    go_wp2_with fail
    refine (new_any w1).mono ?_
    rintro E w2 ⟨rfl, K2, b2⟩
    go_wp2_with fail
    refine (newR_any w2).mono ?_
    rintro E w3 ⟨rfl, D3, b3⟩
    obtain ⟨w4, hw4, sz4, bel4, hB4⟩ := blk_step w3 #[.pointer (some ⟨w1.heap.size, 0, none⟩), .pointer none, .pointer (some ⟨w2.heap.size, 0, none⟩), .pointer none] 90
    have sq2 : w1.heap.size < w2.heap.size := K2.lt _ rfl
    have sq3 : w2.heap.size < w3.heap.size := D3.lt _ rfl
    have b24 := b3.trans (bel4.mono b3.size)
    have b14 := b2.trans (b24.mono b2.size)
    have HO := hide (ropened_raw w3.heap.size w1.heap.size w2.heap.size (.pointer none) (.pointer none) (fun g => g = w1.heap.size) (fun g => g = w2.heap.size) w4 Dm.new hB4 (K2.below b24) (D3.below bel4) (fun g e1 e2 => by omega) (by omega) (by omega) (Big.mono big_new (by decide) (by decide)))
    have PN : Hid (∀ w5, ROpd w3.heap.size w1.heap.size w2.heap.size (fun g => g = w1.heap.size) (fun g => g = w2.heap.size) w4 Dm.new w5 → ∃ s p x F G, RP w1 w3.heap.size w5 s s p w1.heap.size x w2.heap.size F G ∧ RIn 1 s) := hide fun w5 h => pair_new w1 w4 w5 _ _ _ (Nat.le_refl _) (by omega) (by omega) (by omega) (by omega) (by omega) (by omega) (by omega) b14 h
    generalize hgq : w1.heap.size = q at *
    generalize hgy : w2.heap.size = y at *
    generalize hgr : w3.heap.size = r at *
    clear K2 D3 b2 b3 bel4 hB4 b24 b14 sq2 sq3
    go_wp2_with fail
    refine HO.out.mono ?_
    rintro E w5 ⟨rfl, OP⟩
    obtain ⟨s0, p0, x0, F0, G0, P0, I0⟩ := PN.out w5 OP
    have hc5 := P0.cells.2.2.2
    have HP0 := hide P0
    have HI0 := hide I0
    clear HO PN OP P0 I0
    go_wp2
    go_loopw [6] (fun iv wr => ∃ (j : Nat) (s : Rl.Rs) (p x : Nat) (F G : Nat → Prop), j ≤ l.length ∧ iv = .int .i64 j ∧ Hid (RP w1 r wr s s p q x y F G) ∧ Hid (RIn (j + 1) s)) (fun iv _ => l.length - (intOf iv).toNat)
    case atStart => exact ⟨0, s0, p0, x0, F0, G0, by omega, rfl, HP0, HI0⟩
    case round =>
      obtain ⟨j, s, p, x, F, G, hj, rfl, HP, HI⟩ := hrel
      clear HP0 HI0
      by_cases hlt : j < l.length
      · obtain ⟨qb, qo, qk, hvx, _, _, _, hcell⟩ := (HQ1.out.below HP.out.bel).full (by omega)
        simp only [Value.slice.injEq, true_and] at hvx
        obtain ⟨rfl, rfl⟩ := hvx
        obtain ⟨a, ha⟩ : ∃ a, l[j]? = some a := ⟨l[j], by rw [List.getElem?_eq_getElem]⟩
        obtain ⟨d0, d1, d2, d3, d4, d5⟩ := hcell j a ha
        have AO := HQ1.out.2 a (List.mem_of_getElem? ha)
        have AF := HFQ.out a (List.mem_of_getElem? ha)
        obtain ⟨ao, ak, hao, _, _⟩ := AO.1.shape
        have PC := hide (rcall_any w1 r wr s p q x y F G HP.out (j + 1) HI.out (by omega) a AO AF.1 (HAL.out a (List.mem_of_getElem? ha)))
        unfold acv at PC
        rw [hao] at d5 PC
        have hlt' : (j : Int) < l.length := by omega
        have hj0 : (0 : Int) ≤ (j : Int) := by omega
        clear hcell ha hao AO AF
        go_wp2_with fail
        refine PC.out.mono ?_
        rintro E w6 ⟨rfl, s6, p6, x6, F6, G6, P6, I6⟩
        have SM := hide (rsame_any w1 r w6 s6 p6 q x6 y F6 G6 P6 (I6.rbig (by omega)) (by have := I6.len; omega) (.slice ka ks.length kc) ks (HK1.out.below P6.bel) hk2)
        have HP6 := hide P6
        have HI6 := hide I6
        clear PC P6 I6 HP HI d0 d1 d2 d3 d4 d5
        go_wp2_with fail
        refine SM.out.mono ?_
        rintro E w7 ⟨rfl, b7⟩
        have HP7 := hide (HP6.out.below b7)
        clear SM b7 HP6
        go_wp2
        go_roundw
        case rel => exact ⟨j + 1, s6, p6, x6, F6, G6, by omega, by go_num, HP7, HI6⟩
        case measure => simp [intOf]; omega
      · obtain rfl : j = l.length := by omega
        have hlt' : ¬ (l.length : Int) < l.length := by omega
        have hsl : s.l.length ≤ 400000 := by have := HI.out.len; omega
        have HSL := hide hsl
        have HLI : Hid (∀ W, Below wr.heap.size wr W → Calls Tryz.prog 46 #[.pointer (some ⟨p, 0, none⟩)] W fun E w' => ∃ v' rs', E = .returned v' ∧ Rq W.heap.size w' s.l v' rs' ∧ ApC rs' ∧ Below W.heap.size W w') := hide fun W hW => hlist_any p q F W s (HP.out.below hW).ww
        have SX : Hid (∀ W, Below wr.heap.size wr W → W.cell? ⟨r, 1, none⟩ = some (.pointer (some ⟨p, 0, none⟩))) := hide fun W hW => (HP.out.below hW).cells.2.1
        have SM : Hid (∀ W, Below wr.heap.size wr W → Calls Tryz.prog 45 #[.pointer (some ⟨r, 0, none⟩), .slice ka ks.length kc] W fun E w' => E = .returned (.bool true) ∧ Below w.heap.size w w') := hide fun W hW => by
          have hP := HP.out.below hW
          refine (rsame_any w1 r W s p q x y F G hP (HI.out.rbig (by omega)) (by have := HI.out.len; omega) (.slice ka ks.length kc) ks (HK1.out.below hP.bel) hk2).mono ?_
          rintro E w' ⟨rfl, b⟩
          exact ⟨rfl, B1.out.trans (((hP.below b).bel).mono B1.out.size)⟩
        have AP : Hid (∀ (W0 W1 W2 : World) (rs1 rs2 : List Cw) (v1 v2 : Value), Below wr.heap.size wr W0 → Below W0.heap.size W0 W1 → Rq W0.heap.size W1 s.l v1 rs1 → ApC rs1 → Below W1.heap.size W1 W2 → Rq W1.heap.size W2 s.l v2 rs2 → ApC rs2 → Below wr.heap.size wr W2 → ∃ v3 W3, (Builtin.append_ #[69, 69] 69 #[v1, v2]).run Tryz.prog W2 = .ok v3 W3 ∧ (OwnR 93 wr.heap.size W3 v3 (rs1 ++ rs2) ∧ (∀ c ∈ rs1 ++ rs2, OwnO 81 wr.heap.size W3 c.v c.l ∧ c.l.length ≤ 2000 ∧ FitO c.l) ∧ ApC (rs1 ++ rs2) ∧ (rs1 ++ rs2).length ≤ 800000) ∧ Below wr.heap.size wr W3 ∧ W3.cell? ⟨r, 1, none⟩ = some (.pointer (some ⟨p, 0, none⟩))) := hide fun W0 W1 W2 rs1 rs2 v1 v2 h0 st1 q1 a1 st2 q2 a2 h2 => by
          have q1' := q1.below st2
          have s0 := h0.size
          have s2 := st2.size
          have l1 : rs1.length ≤ 400000 := by rw [q1.len]; exact HSL.out
          have l2 : rs2.length ≤ 400000 := by rw [q2.len]; exact HSL.out
          have s1 := st1.size
          obtain ⟨v3, W3, hr, own3, gr3, at3⟩ := run_append_coms_at (P := Tryz.prog) (w := W2) 69 69 93 wr.heap.size Tryz.underlying69 Tryz.info93 v1 rs1 (row_rebase q1'.row s0) v2 rs2 q2.row.row q2.isc.2.one (by omega) h2.size
          have kp : KeepT 93 W2 W3 := KeepT.of_row q1'.row gr3
          have b3 : Below wr.heap.size wr W3 := h2.grown gr3 h2.size fun k hk => by have := (World.ownsRow.lt q1'.row k hk).1; omega
          refine ⟨v3, W3, hr, ⟨own3, fun c hc => ?_, apc_two a1 a2 q1.cop q2.cop (Nat.le_refl _), by rw [List.length_append]; omega⟩, b3, SX.out W3 b3⟩
          rcases List.mem_append.1 hc with hm | hm
          · obtain ⟨f1, f2, f3, f4, f5⟩ := fit_run (good_get q1.good q1.is c hm)
            exact ⟨(OwnO.rebase (q1'.cop c hm) s0).keepT kp (by decide), by omega, f1⟩
          · obtain ⟨f1, f2, f3, f4, f5⟩ := fit_run (good_get q2.good q2.is c hm)
            exact ⟨(OwnO.rebase (q2.cop c hm) (by omega)).keepT kp (by decide), by omega, f1⟩
        obtain ⟨W0, hW0⟩ : ∃ x, wr.drew = x := ⟨_, rfl⟩
        have bel0 : Below wr.heap.size wr W0 := by rw [← hW0]; exact (Below.refl _ _).drew
        clear HP HI hsl hlq HQ1 HFQ hc5 HAL HK1
        go_wp2_with fail
        refine region_any (ops := (regOf 14 Tryz.f8)) (S := fun W => W.cell? ⟨r, 1, none⟩ = some (.pointer (some ⟨p, 0, none⟩))) (by kernel_rfl) wzl_size ?_
        rw [wzl_new, hW0]
        refine any_take (v := ?_) wzl_t0_0 (by kernel_rfl) (fun _ _ _ _ _ h => h) (SX.out _ bel0) rfl rfl (by rfl) ?_ ?_
        rotate_left 1
        · intro w hS
          (try dsimp only at hS)
          go_simp
          all_goals with_reducible rfl
        simp only [Act.put, List.setIfInBounds_toArray, List.set_cons_zero, List.set_cons_succ]
        refine any_take (v := ?_) wzl_t1_1 (by kernel_rfl) (fun _ _ _ _ _ h => h) (SX.out _ bel0) rfl rfl (by rfl) ?_ ?_
        rotate_left 1
        · intro w hS
          (try dsimp only at hS)
          go_simp
          all_goals with_reducible rfl
        simp only [Act.put, List.setIfInBounds_toArray, List.set_cons_zero, List.set_cons_succ]
        refine any_take (v := ?_) wzl_t3_2 (by kernel_rfl) (fun _ _ _ _ _ h => h) (SX.out _ bel0) rfl rfl (by rfl) ?_ ?_
        rotate_left 1
        · intro w hS
          (try dsimp only at hS)
          go_simp
          all_goals with_reducible rfl
        simp only [Act.put, List.setIfInBounds_toArray, List.set_cons_zero, List.set_cons_succ]
        refine any_take (v := ?_) wzl_t7_3 (by kernel_rfl) (fun _ _ _ _ _ h => h) (SX.out _ bel0) rfl rfl (by rfl) ?_ ?_
        rotate_left 1
        · intro w hS
          (try dsimp only at hS)
          go_simp
          all_goals with_reducible rfl
        simp only [Act.put, List.setIfInBounds_toArray, List.set_cons_zero, List.set_cons_succ]
        refine any_take (v := ?_) wzl_t15_5 (by kernel_rfl) (fun _ _ _ _ _ h => h) (SX.out _ bel0) rfl rfl (by rfl) ?_ ?_
        rotate_left 1
        · intro w hS
          (try dsimp only at hS)
          go_simp
          all_goals with_reducible rfl
        simp only [Act.put, List.setIfInBounds_toArray, List.set_cons_zero, List.set_cons_succ]
        refine any_take (v := ?_) wzl_t47_6 (by kernel_rfl) (fun _ _ _ _ _ h => h) (SX.out _ bel0) rfl rfl (by rfl) ?_ ?_
        rotate_left 1
        · intro w hS
          (try dsimp only at hS)
          go_simp
          all_goals with_reducible rfl
        simp only [Act.put, List.setIfInBounds_toArray, List.set_cons_zero, List.set_cons_succ]
        refine any_take (v := ?_) wzl_t111_7 (by kernel_rfl) (fun _ _ _ _ _ h => h) (SX.out _ bel0) rfl rfl (by rfl) ?_ ?_
        rotate_left 1
        · intro w hS
          (try dsimp only at hS)
          go_simp
          all_goals with_reducible rfl
        simp only [Act.put, List.setIfInBounds_toArray, List.set_cons_zero, List.set_cons_succ]
        refine any_take (v := ?_) wzl_t239_8 (by kernel_rfl) (fun _ _ _ _ _ h => h) (SX.out _ bel0) rfl rfl (by rfl) ?_ ?_
        rotate_left 1
        · intro w hS
          (try dsimp only at hS)
          go_simp
          all_goals with_reducible rfl
        simp only [Act.put, List.setIfInBounds_toArray, List.set_cons_zero, List.set_cons_succ]
        refine any_take (v := ?_) wzl_t495_12 (by kernel_rfl) (fun _ _ _ _ _ h => h) (SX.out _ bel0) rfl rfl (by rfl) ?_ ?_
        rotate_left 1
        · intro w hS
          (try dsimp only at hS)
          go_simp
          all_goals with_reducible rfl
        simp only [Act.put, List.setIfInBounds_toArray, List.set_cons_zero, List.set_cons_succ]
        refine any_one wzl_r4591 ?_
        refine any_op rfl (by rfl) (fun K hK => ?_)
        go_simp
        refine (HLI.out _ bel0).mono ?_
        rintro E W1 ⟨v1, rs1, rfl, Q1, A1, st1⟩
        have bel1 := bel0.trans (st1.mono bel0.size)
        obtain ⟨xa1, xn1, xk1, hx1⟩ : ∃ a n k, v1 = .slice a n k := by
          obtain ⟨a1, k1, h1, _⟩ := Q1.row.row.shape
          exact ⟨a1, _, k1, h1⟩
        subst hx1
        go_wp2_with fail
        refine hK.out _ _ (SX.out _ bel1) ?_
        clear hK K
        try simp only [Act.put, List.setIfInBounds_toArray, List.set_cons_zero, List.set_cons_succ]
        refine any_one wzl_r4607 ?_
        refine any_op rfl (by rfl) (fun K hK => ?_)
        go_simp
        refine (HLI.out _ bel1).mono ?_
        rintro E W2 ⟨v2, rs2, rfl, Q2, A2, st2⟩
        have bel2 := bel1.trans (st2.mono bel1.size)
        obtain ⟨xa2, xn2, xk2, hx2⟩ : ∃ a n k, v2 = .slice a n k := by
          obtain ⟨a1, k1, h1, _⟩ := Q2.row.row.shape
          exact ⟨a1, _, k1, h1⟩
        subst hx2
        go_wp2_with fail
        refine hK.out _ _ (SX.out _ bel2) ?_
        clear hK K
        try simp only [Act.put, List.setIfInBounds_toArray, List.set_cons_zero, List.set_cons_succ]
        refine any_one wzl_r5119 ?_
        obtain ⟨v3, W3, hr, J3, bel3, hc3⟩ := AP.out _ _ _ _ _ _ _ bel0 st1 Q1 A1 st2 Q2 A2 bel2
        obtain ⟨xa3, xn3, xk3, hx3⟩ : ∃ a n k, v3 = .slice a n k := by
          obtain ⟨a1, k1, h1, _⟩ := J3.1.row.shape
          exact ⟨a1, _, k1, h1⟩
        subst hx3
        refine any_append rfl (by rfl) (.tmp 57) (.tmp 62) 69 rfl rfl rfl hr ⟨hc3, ?_⟩
        simp only [Act.put, List.setIfInBounds_toArray, List.set_cons_zero, List.set_cons_succ]
        refine any_take (v := ?_) wzl_t6143_11 (by kernel_rfl) (fun _ _ _ _ _ h => h) hc3 rfl rfl (by rfl) ?_ ?_
        rotate_left 1
        · intro w hS
          (try dsimp only at hS)
          go_simp
          all_goals with_reducible rfl
        simp only [Act.put, List.setIfInBounds_toArray, List.set_cons_zero, List.set_cons_succ]
        refine any_done wzl_end ?_
        have J3 := hide J3
        generalize hrs : rs1 ++ rs2 = rs at *
        have hx3 : xn3 = rs.length := by
          obtain ⟨a1, k1, h1, _⟩ := J3.out.1.row.shape
          simp only [Value.slice.injEq] at h1
          exact h1.2.1
        subst hx3
        have B3 := hide bel3
        have N3 := hide J3.out.2.2.2
        clear Q1 Q2 A1 A2 st1 st2 bel0 bel1 bel2 bel3 hr hc3 hrs HLI AP SX hW0
        obtain ⟨wq, hwq⟩ : ∃ wq, wq = wr := ⟨_, rfl⟩
        subst hwq
        go_wp2
        go_loopw [7, 65] (fun ov iv wk => ∃ (k : Nat), k ≤ rs.length ∧ iv = .int .i64 k ∧ Hid (OwnG one 1 53 W3.heap.size wk ov ((rs.map Cw.v).take k)) ∧ Hid (Below W3.heap.size W3 wk)) (fun _ iv _ => rs.length - (intOf iv).toNat)
        case atStart => exact ⟨0, by omega, rfl, hide (OwnG.nil _ _ _ _ _), hide (Below.refl _ _)⟩
        case round =>
          obtain ⟨k, hk, rfl, ho, bel⟩ := hrel
          have hn3 := N3.out
          by_cases hlt2 : k < rs.length
          · have hlt2' : (k : Int) < rs.length := by omega
            have hk0 : (0 : Int) ≤ (k : Int) := by omega
            obtain ⟨b1, o1, c1, hv, _, _, hB, hcl⟩ := J3.out.1.row.full (by omega)
            simp only [Value.slice.injEq, true_and] at hv
            obtain ⟨rfl, rfl⟩ := hv
            obtain ⟨c, hc⟩ : ∃ c, rs[k]? = some c := ⟨rs[k], by rw [List.getElem?_eq_getElem]⟩
            obtain ⟨y0, y1, y2⟩ := hcl k c hc
            have e0 := (bel.out.cell (p := ⟨b1, o1 + k * 3, none⟩) hB).trans y0
            have e1 := (bel.out.cell (p := ⟨b1, o1 + k * 3 + 1, none⟩) hB).trans y1
            have e2 := (bel.out.cell (p := ⟨b1, o1 + k * 3 + 2, none⟩) hB).trans y2
            obtain ⟨ax, cx, hcv, _, _⟩ := (J3.out.2.1 c (List.mem_of_getElem? hc)).1.is.shape
            rw [hcv] at e2
            have HR : Hid ((rs.map Cw.v).take k ++ [.slice ax c.l.length cx] = (rs.map Cw.v).take (k + 1)) := hide (by
              rw [List.take_add_one, List.getElem?_map, hc, ← hcv]; rfl)
            have hkl2 : ((rs.map Cw.v).take k).length = k := by rw [List.length_take, List.length_map]; omega
            have HKL := hide hkl2
            obtain ⟨X, hX1, hX2, szX, belX, bX, x0, x1, x2⟩ := new_step wr 93 (.int .i64 0) (.int .i64 0) (.slice none 0 0) (.int .i64 c.e) (.int .i64 c.n) (.slice ax c.l.length cx)
            obtain ⟨W, hW, szW, belW, ownW⟩ := lls_step X (.slice ax c.l.length cx)
            have szk := bel.out.size
            have bX2 := bel.out.trans (belX.mono szk)
            have bel2 := bX2.trans (belW.mono bX2.size)
            have ho2 : OwnG one 1 53 W3.heap.size W u7 ((rs.map Cw.v).take k) := row_below (row_below ho.out belX) belW
            have sz2 := bel2.size
            have BL := hide bel2
            clear hc hkl2 hcv ho hcl y0 y1 y2 bX belX belW bX2 bel2 szX szW
            go_wp2_with (at_builtin; refine wpList_append_lls rfl (.tmp 69) (.tmp 72) rfl W3.heap.size _ _ rfl ho2 _ _ rfl ownW.row (by simp [Value.oneCell']) (by rw [HKL.out, List.length_singleton]; omega) (by omega) ?_)
            intro v4 w4 own4 bel4 gr4
            rw [HR.out] at own4
            have H4 := hide own4
            have bel5 := hide (BL.out.trans bel4)
            clear own4 bel4 gr4 ownW ho2 hW
            go_wp2
            go_roundw
            case rel => exact ⟨k + 1, by omega, by go_num, H4, bel5⟩
            case measure => simp [intOf]; omega
          · have hkn : k = rs.length := by omega
            have hge : ¬ (k : Int) < rs.length := by omega
            have H4 : OwnG one 1 53 W3.heap.size wr u7 (rs.map Cw.v) := by
              have := ho.out
              rw [List.take_of_length_le (by rw [List.length_map]; omega)] at this
              exact this
            have BK : Below wq.heap.size wq wr := B3.out.trans (bel.out.mono B3.out.size)
            have APA : Hid (∃ ga gk, u7 = .slice ga rs.length gk ∧ Calls Tryz.prog 47 #[u7] wr fun E w' => E = .returned (.bool true) ∧ Below wq.heap.size wq w') := hide (by
              by_cases h0 : 0 < rs.length
              · obtain ⟨g, cap, hv, hcap, LL⟩ := lists_rows H4 (fun c hc => ((J3.out.2.1 c hc).1).below bel.out) J3.out.2.2.1 (fun c hc => (J3.out.2.1 c hc).2) h0
                refine ⟨_, cap, hv, ?_⟩
                rw [hv]
                refine (apartO_yes rs.length g cap wq.heap.size _ _ wr (by omega) hcap BK.size LL h0).mono ?_
                rintro E w' ⟨rfl, b⟩
                exact ⟨rfl, BK.trans b⟩
              · obtain ⟨ga, gk, hv, _⟩ := RowG.shape H4.row
                rw [List.length_map] at hv
                refine ⟨ga, gk, hv, ?_⟩
                rw [hv, show rs.length = 0 by omega]
                refine (apartO_none ga gk wr).mono ?_
                rintro E w' ⟨rfl, b⟩
                exact ⟨rfl, BK.trans (b.mono BK.size)⟩)
            obtain ⟨ga, gk, hu, hAP⟩ := APA.out
            have HAPP := hide hAP
            subst hu
            clear APA hAP H4 BK ho bel J3 B3 N3
            go_wp2_with fail
            refine HAPP.out.mono ?_
            rintro E w8 ⟨rfl, b8⟩
            have SM8 := hide (SM.out w8 b8)
            clear HAPP SM b8
            go_wp2_with fail
            refine SM8.out.mono ?_
            rintro E w9 ⟨rfl, b9⟩
            have B9 := hide b9
            clear SM8 b9
            go_wp2
            go_ret
            exact ⟨rfl, B9.out⟩

end Go.Proofs.YthmecljkackmbaaGreat

/- What an argument that is a slice of calls of a log comes in as. No program. -/
namespace Go.Proofs.YthmecljkackmbaaGreat
open Go.RowKit Go.ChangeShapes Go.WideShapes Go.Deep
set_option linter.unusedVariables false

theorem i64of {z : Int} (h : (Lit.int .i64 z).wf = true) : I64 z := by
  have := in64 h
  unfold In64 at this
  exact ⟨by omega, by omega⟩

section
variable {H : Type} {enc : TypeId × Value → H} {P : Program} {w : World} {base : Nat} {spare : Nat → Bool} {held : Bool}

theorem trod_struct4 {t : TypeId} {f0 f1 f2 f3 : Field} {fuel : Nat} {cs : List Value} {x : DataW H × List MemPlace} (ht : P.underlying t = some (.struct #[f0, f1, f2, f3])) (h : DataW.trod enc P w base spare held fuel t cs = some x) :
    ∃ y0 y1 y2 y3 n, x = (.agg [y0.1, y1.1, y2.1, y3.1], y0.2 ++ (y1.2 ++ (y2.2 ++ y3.2))) ∧ cs.length = P.cellsOf t ∧ DataW.trod enc P w base spare held n f0.type ((cs.drop f0.offset).take (P.cellsOf f0.type)) = some y0 ∧
      DataW.trod enc P w base spare held n f1.type ((cs.drop f1.offset).take (P.cellsOf f1.type)) = some y1 ∧ DataW.trod enc P w base spare held n f2.type ((cs.drop f2.offset).take (P.cellsOf f2.type)) = some y2 ∧
      DataW.trod enc P w base spare held n f3.type ((cs.drop f3.offset).take (P.cellsOf f3.type)) = some y3 := by
  obtain ⟨xs, n, _, rfl, hl, hlen, hf⟩ := DataW.trod_struct ht h
  match xs, hlen with
  | [y0, y1, y2, y3], _ => exact ⟨y0, y1, y2, y3, n, by simp, hl, by simpa using hf 0 f0 rfl, by simpa using hf 1 f1 rfl, by simpa using hf 2 f2 rfl, by simpa using hf 3 f3 rfl⟩

/-- A call of a list as a datum. -/
def ActD (d : DataW H) (a : Ac) : Prop := ∃ x0 x1 x2 d3, d = .agg [x0, x1, x2, d3] ∧ ComD d3 a.c

theorem open_qs {t e o : TypeId} {f0 f1 f2 f3 c0 c1 c2 g0 g1 g2 : Field} {fuel : Nat} {v : Value} {x : DataW H × List MemPlace} (ht : P.underlying t = some (.slice e)) (he : P.underlying e = some (.struct #[f0, f1, f2, f3]))
    (hof : f0.offset = 0 ∧ f1.offset = 1 ∧ f2.offset = 2 ∧ f3.offset = 3) (hcl : P.cellsOf f0.type = 1 ∧ P.cellsOf f1.type = 1 ∧ P.cellsOf f2.type = 1 ∧ P.cellsOf f3.type = 3) (ce : P.cellsOf e = 6) (u0 : P.underlying f0.type = some (.int .i64)) (u1 : P.underlying f1.type = some (.int .i64)) (u2 : P.underlying f2.type = some (.int .i64))
    (hc : P.underlying f3.type = some (.struct #[c0, c1, c2])) (hone : oneCellFields P #[c0, c1, c2] = true) (v0 : P.underlying c0.type = some (.int .i64)) (v1 : P.underlying c1.type = some (.int .i64)) (v2 : P.underlying c2.type = some (.slice o))
    (ho : P.underlying o = some (.struct #[g0, g1, g2])) (hone' : oneCellFields P #[g0, g1, g2] = true) (co : P.cellsOf o = 3) (k0 : P.underlying g0.type = some .bool) (k1 : P.underlying g1.type = some .string) (k2 : P.underlying g2.type = some .string)
    (h : DataW.trod enc P w base spare held fuel t [v] = some x) : ∃ r : List Ac, IsQ w v r ∧ ((x.1 = .nil ∧ r = []) ∨ ∃ ds sp, x.1 = .slice ds sp ∧ ds.length = r.length ∧ ∀ (i : Nat) (a : Ac), r[i]? = some a → ∃ d, ds[i]? = some d ∧ ActD d a) := by
  rcases open_slice ht h with ⟨hv, hx⟩ | ⟨a, len, cap, m, n, D, Pl, hv, hb, hl, hm, hmm, rfl, hx⟩
  · simp at hv
    subst hv hx
    exact ⟨[], ⟨RowG.nil _ _, fun a ha => by simp at ha⟩, .inl ⟨rfl, rfl⟩⟩
  · simp at hv
    subst hv
    have hlm : len ≤ m := by rw [hmm]; split <;> omega
    obtain ⟨p0, q0⟩ := hone_of hone 0 c0 rfl
    obtain ⟨p1, q1⟩ := hone_of hone 1 c1 rfl
    obtain ⟨p2, q2⟩ := hone_of hone 2 c2 rfl
    obtain ⟨a0, a1, a2, a3⟩ := hof
    obtain ⟨b0, b1, b2, b3⟩ := hcl
    have each : ∀ i, i < len → ∃ c : Ac, (∀ m u, (acc c)[m]? = some u → w.cell? (a.add (i * 6 + m)) = some u) ∧ AcOk w c ∧ ActD (D i) c := by
      intro i hi
      obtain ⟨cs', h1, h2⟩ := hx i (by omega)
      rw [ce] at h1
      obtain ⟨_, hlen, hcell⟩ := World.cells?_some h1
      obtain ⟨y0, y1, y2, y3, k, hxy, _, r0, r1, r2, r3⟩ := trod_struct4 he h2
      match cs', hlen with
      | [v0', v1', v2', v3', v4', v5'], _ =>
        simp [a0, a1, a2, a3, b0, b1, b2, b3] at r0 r1 r2 r3
        obtain ⟨z0, hz0, rfl, w0⟩ := DataW.trod_int u0 r0
        obtain ⟨z1, hz1, rfl, w1⟩ := DataW.trod_int u1 r1
        obtain ⟨z2, hz2, rfl, w2⟩ := DataW.trod_int u2 r2
        obtain ⟨t0, t1, t2, k', hty, _, s0, s1, s2⟩ := trod_struct3 hc r3
        simp [p0, p1, p2, q0, q1, q2] at s0 s1 s2
        obtain ⟨x3, hx3, rfl, w3⟩ := DataW.trod_int v0 s0
        obtain ⟨x4, hx4, rfl, w4⟩ := DataW.trod_int v1 s1
        obtain ⟨l, hl2, hd2⟩ := open_ops v2 ho hone' co k0 k1 k2 s2
        simp at hz0 hz1 hz2 hx3 hx4
        subst hz0 hz1 hz2 hx3 hx4
        refine ⟨⟨z0, z1, z2, ⟨x3, x4, v5', l⟩⟩, fun m u hu => ?_, ⟨hl2, ⟨i64of w0, i64of w1, i64of w2⟩, in64 w3, in64 w4⟩, ?_⟩
        · have hm6 : m < 6 := (List.getElem?_eq_some_iff.1 hu).1
          have hc' := hcell m (by omega)
          rw [Go.Deep.add_add] at hc'
          rw [hc']
          rcases (show m = 0 ∨ m = 1 ∨ m = 2 ∨ m = 3 ∨ m = 4 ∨ m = 5 by omega) with rfl | rfl | rfl | rfl | rfl | rfl <;> simpa [acc] using hu
        · simp only [Prod.mk.injEq] at hxy
          refine ⟨_, _, _, _, hxy.1, ?_⟩
          rw [hty]
          exact ⟨_, _, _, rfl, hd2⟩
    have : Inhabited Ac := ⟨⟨0, 0, 0, ⟨0, 0, .slice none 0 0, []⟩⟩⟩
    obtain ⟨f, hf⟩ := choose_lt each
    refine ⟨(List.range len).map f, ⟨.inr ⟨a, cap, by simp, by simpa using hl, hm, fun j u hj => ?_⟩, fun c hc => ?_⟩, .inr ⟨(List.range len).map D, (List.range (m - len)).map fun j => D (len + j), rfl, by simp, fun i c hic => ?_⟩⟩
    · obtain ⟨i, c, m', hic, rfl, hu⟩ := gcells_inv acc_len (by decide) _ j u hj
      obtain ⟨hi, e⟩ := List.getElem?_eq_some_iff.1 hic
      simp at hi e
      subst e
      exact (hf i hi).1 m' u hu
    · obtain ⟨i, hi, rfl⟩ := List.mem_map.1 hc
      exact (hf i (by simpa using hi)).2.1
    · obtain ⟨hi, e⟩ := List.getElem?_eq_some_iff.1 hic
      simp at hi e
      subst e
      exact ⟨D i, by simp [hi], (hf i hi).2.2⟩

theorem act_weights {t : TypeId} {f0 f1 f2 f3 : Field} {x0 x1 x2 d : DataW H} {n : Nat} (hu : P.underlying t = some (.struct #[f0, f1, f2, f3])) (hn : n ∈ d.weights P f3.type) : n ∈ (DataW.agg [x0, x1, x2, d]).weights P t := by
  simp only [DataW.weights, hu]
  simp [DataW.weightsEach, hn]

theorem sized_qs {ts : List TypeId} {ds : List (DataW H)} (h : (DataW.weightsEach P ts ds).all (· ≤ reachBytes) = true) {j : Nat} {t e o : TypeId} {f0 f1 f2 f3 c0 c1 c2 g0 g1 g2 : Field} {r : List Ac} {es sp : List (DataW H)} (ht : ts[j]? = some t) (hd : ds[j]? = some (.slice es sp)) (hlen : es.length = r.length) (hr : ∀ (i : Nat) (a : Ac), r[i]? = some a → ∃ d, es[i]? = some d ∧ ActD d a)
    (hu : P.underlying t = some (.slice e)) (he : P.underlying e = some (.struct #[f0, f1, f2, f3])) (hb : P.bytesOf e = 64) (hc : P.underlying f3.type = some (.struct #[c0, c1, c2])) (h2 : P.underlying c2.type = some (.slice o)) (ho : P.underlying o = some (.struct #[g0, g1, g2])) (hbo : P.bytesOf o = 40) :
    FitQ r ∧ r.length * 64 ≤ 140737488351232 := by
  have hall := List.all_eq_true.1 h
  refine ⟨fun a ha => ?_, ?_⟩
  · obtain ⟨i, hi⟩ := List.getElem?_of_mem ha
    obtain ⟨d, hd1, x0, x1, x2, d3, rfl, y0, y1, d2, rfl, hd2⟩ := hr i a hi
    refine ops_fit (fun n hn => ?_) hd2 h2 ho hbo
    exact of_decide_eq_true (hall n (DataW.weights_mem_each ht hd n (by
      simp only [DataW.weights, hu]
      exact List.mem_cons_of_mem _ (List.mem_append_left _ (weights_all (List.mem_of_getElem? hd1) (act_weights he (com_weights hc hn)))))))
  · have := sized_slice h ht hd hu
    rw [hb] at this
    simp only [reachBytes] at this
    omega

end

end Go.Proofs.YthmecljkackmbaaGreat

/- Proved: RunScript -/
namespace Go.Proofs.YthmecljkackmbaaGreat
open Go.ChangeShapes Go.WideShapes Go.ChangeAt Go.RowKit
open Go.ChangeMaps (open_string shut_string)
set_option linter.unusedVariables false

namespace runScriptFrame
theorem own : ownKnob Tryz.prog.godebug = none := by kernel_rfl
theorem laidOut : laidOutB Tryz.prog = true := by kernel_rfl
theorem cells9 : Tryz.prog.cellsOf 9 = 1 := by kernel_rfl
theorem bytes9 : Tryz.prog.bytesOf 9 = 16 := by kernel_rfl
theorem cells95 : Tryz.prog.cellsOf 95 = 6 := by kernel_rfl
theorem bytes95 : Tryz.prog.bytesOf 95 = 64 := by kernel_rfl
theorem cells81 : Tryz.prog.cellsOf 81 = 3 := by kernel_rfl
theorem bytes81 : Tryz.prog.bytesOf 81 = 40 := by kernel_rfl

set_option maxRecDepth 100000 in
theorem lifted (os : Os) (started : os.Started) (H : Type) (enc : TypeId × Value → H) :
    ReturnsInHanded {} Tryz.checked os 8 .any (Rows.runScriptSpec.pre6 enc Tryz.prog Tryz.f8 Rows.runScriptRow.domain false) (Rows.runScriptSpec.post enc Tryz.prog Tryz.f8 false true false false) := by
  refine returnsInHanded_of_change_sized (C := Tryz.checked) own started (by kernel_rfl) Tryz.func8
    (ChangeSpec.witness6 (enc := enc) (C := Tryz.checked) false ⟨#[], #[.slice none 0 0, .slice none 0 0], []⟩ 8 (by kernel_rfl) (by kernel_rfl) (by kernel_rfl) (by kernel_rfl)) ?_
  intro W base args ds gs before hval0 hW hcnd hsz0 _
  have hsz : (DataW.weightsEach Tryz.prog (Tryz.f8.params.toList ++ Rows.runScriptSpec.plain.varTypes Tryz.prog) (ds ++ gs)).all (· ≤ reachBytes) = true := hsz0
  clear hsz0
  have hval : ∀ (j : Nat) t v, Tryz.f8.params[j]? = some t → args[j]? = some v → Value.okWide Tryz.prog W .any base t v := hval0
  have hW' := hW
  obtain ⟨p, q, hA0, hV, rfl, hfz, hnd⟩ := hW
  have hA : DataW.TrodAll enc Tryz.prog W 0 (fun _ => true) true Tryz.f8.params.toList args.toList ds p := hA0
  rw [Tryz.params8] at hA hval hsz
  obtain ⟨v0, vs0, d0, ds0, p0, q0, hargs, rfl, rfl, h0, r0⟩ := trodAll_cons hA
  obtain ⟨v1, vs1, d1, ds1, p1, q1, rfl, rfl, rfl, h1, r1⟩ := trodAll_cons r0
  obtain ⟨rfl, rfl, rfl⟩ := trodAll_nil r1
  obtain rfl : args = #[v0, v1] := by cases args; simp_all
  obtain ⟨rfl, rfl⟩ := trodVars_none hV
  obtain ⟨a0, len0, cap0, rfl⟩ := okWide_slice Tryz.underlying86 (hval 0 86 v0 rfl rfl)
  have k0 := h0
  have lt0 : ∀ x ∈ p0, x.block < W.heap.size := by obtain ⟨m, hm⟩ := k0; exact DataW.trod_lt m _ _ _ hm
  obtain ⟨z0, w0, g0, b0⟩ : ∃ r, IsQ W (.slice a0 len0 cap0) r ∧ FitQ r ∧ r.length * 64 ≤ 140737488351232 := by
    obtain ⟨fuel, hf⟩ := h0
    have hf' : DataW.trod enc Tryz.prog W 0 (fun _ => true) true fuel 86 [.slice a0 len0 cap0] = some (d0, p0) := by simpa [Value.cells] using hf
    obtain ⟨r, hr, hd⟩ := open_qs Tryz.underlying86 Tryz.underlying95 ⟨by kernel_rfl, by kernel_rfl, by kernel_rfl, by kernel_rfl⟩ ⟨by kernel_rfl, by kernel_rfl, by kernel_rfl, by kernel_rfl⟩ cells95 Tryz.underlying3 Tryz.underlying3 Tryz.underlying3 Tryz.underlying93 (by kernel_rfl) Tryz.underlying3 Tryz.underlying3 Tryz.underlying53 Tryz.underlying81 (by kernel_rfl) cells81 Tryz.underlying4 Tryz.underlying9 Tryz.underlying9 hf'
    rcases hd with ⟨_, rfl⟩ | ⟨es, sp, hd, hln, hes⟩
    · exact ⟨[], hr, fun c hc => by simp at hc, by simp⟩
    · simp only at hd
      rw [hd] at hsz
      obtain ⟨h1, h2⟩ := sized_qs hsz (j := 0) (t := 86) (e := 95) rfl rfl hln hes Tryz.underlying86 Tryz.underlying95 bytes95 Tryz.underlying93 Tryz.underlying53 Tryz.underlying81 bytes81
      exact ⟨r, hr, h1, h2⟩
  obtain ⟨a1, len1, cap1, rfl⟩ := okWide_slice Tryz.underlying35 (hval 1 35 v1 rfl rfl)
  have k1 := h1
  have lt1 : ∀ x ∈ p1, x.block < W.heap.size := by obtain ⟨m, hm⟩ := k1; exact DataW.trod_lt m _ _ _ hm
  obtain ⟨z1, w1, g1, b1⟩ : ∃ r, IsS W (.slice a1 len1 cap1) r ∧ FitS r ∧ r.length * 16 ≤ 140737488351232 := by
    obtain ⟨fuel, hf⟩ := h1
    have hf' : DataW.trod enc Tryz.prog W 0 (fun _ => true) true fuel 35 [.slice a1 len1 cap1] = some (d1, p1) := by simpa [Value.cells] using hf
    obtain ⟨r, hr, hd⟩ := open_strs Tryz.underlying35 Tryz.underlying9 cells9 hf'
    rcases hd with ⟨_, rfl⟩ | ⟨es, sp, hd, hln, hes⟩
    · exact ⟨[], hr, fun c hc => by simp at hc, by simp⟩
    · simp only at hd
      rw [hd] at hsz
      obtain ⟨h1, h2⟩ := sized_strs hsz (j := 1) (t := 35) (e := 9) rfl rfl hln hes Tryz.underlying35 Tryz.underlying9 bytes9
      exact ⟨r, hr, h1, h2⟩
  clear hA0 hval0
  refine (runScript_walk _ z0 _ z1 W w0 g0 b0 w1 g1 b1).mono fun e W' ⟨he, bel⟩ => ?_
  subst he
  exact ⟨_, rfl, _, _, _, [], _, [], hW', trodAll_mk1 (shut_bool Tryz.underlying4 _), (trodAll_cons_mk (Below.trod laidOut (by kernel_rfl) (of_decide_eq_true (by kernel_rfl)) k0 bel lt0) (trodAll_cons_mk (Below.trod laidOut (by kernel_rfl) (of_decide_eq_true (by kernel_rfl)) k1 bel lt1) trodAll_mk0)), rfl, bel.frame _, fun h => by cases h⟩

theorem over : Rows.runScriptRow.holds Tryz.pinned (OpenSpec.ofChange Rows.runScriptSpec) :=
  OpenClaim.holds_of_wide 8 Tryz.f8 rfl rfl rfl rfl rfl rfl rfl ⟨rfl, rfl, rfl, rfl, rfl⟩ rfl rfl rfl rfl rfl (by kernel_rfl) Tryz.func8 (by kernel_rfl)
    (of_decide_eq_true (by kernel_rfl)) (by unfold Func.isWrapper; first | (rw [if_pos (by decide +kernel)]; kernel_rfl) | (rw [if_neg (by decide +kernel)]; exact ⟨rfl, rfl⟩))
    (fun os started H enc _ => lifted os started H enc)
end runScriptFrame

/-- The statement. -/
theorem runScript_holds : Rows.RunScriptSaid := runScriptFrame.over
#print axioms runScript_holds
end Go.Proofs.YthmecljkackmbaaGreat
