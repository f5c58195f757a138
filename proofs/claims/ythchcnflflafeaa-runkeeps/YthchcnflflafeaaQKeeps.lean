/- Texts of one layer, one behind the other. -/
import Derived.Test.YthchcnflflafeaaGU
import Derived.Test.YthchcnflflafeaaProg
import Derived.Test.YthchcnflflafeaaGT2
import Derived.Test.YthchcnflflafeaaGC5
import Derived.Deep.CutBlock
import Derived.Test.YthchcnflflafeaaRows
import Derived.ProofKit
import Derived.OpenShut
import Derived.ShutString
import Derived.ChangeOld
import Derived.Below
import Derived.SizedLaws
import Derived.Test.YthchcnflflafeaaGFt
/- The steps of the region of a row that is copied and extended. -/
namespace Go.Proofs.Ythchcnflflafeaa
open Go.RowKit
set_option linter.unusedVariables false

theorem wye_new : Array.replicate 7 false = lst 7 0 := by kernel_rfl

theorem wye_size : (regOf 19 Try.f7).size = 7 := by kernel_rfl

theorem wye_t0 : Region.free .any (regOf 19 Try.f7) (lst 7 0) 1 = true ∧ (Region.ready .any (regOf 19 Try.f7) (lst 7 0)).contains 1 = true ∧ (lst 7 0).setIfInBounds 1 true = lst 7 2 := ⟨by kernel_rfl, by kernel_rfl, by kernel_rfl⟩

theorem wye_t2 : Region.free .any (regOf 19 Try.f7) (lst 7 2) 3 = true ∧ (Region.ready .any (regOf 19 Try.f7) (lst 7 2)).contains 3 = true ∧ (lst 7 2).setIfInBounds 3 true = lst 7 10 := ⟨by kernel_rfl, by kernel_rfl, by kernel_rfl⟩

theorem wye_f10 : Region.ready .any (regOf 19 Try.f7) (lst 7 10) = [0, 4] ∧ (lst 7 10).setIfInBounds 0 true = lst 7 11 ∧ (lst 7 10).setIfInBounds 4 true = lst 7 26 := ⟨by kernel_rfl, by kernel_rfl, by kernel_rfl⟩

theorem wye_f11 : Region.ready .any (regOf 19 Try.f7) (lst 7 11) = [2, 4] ∧ (lst 7 11).setIfInBounds 2 true = lst 7 15 ∧ (lst 7 11).setIfInBounds 4 true = lst 7 27 := ⟨by kernel_rfl, by kernel_rfl, by kernel_rfl⟩

theorem wye_o15 : Region.ready .any (regOf 19 Try.f7) (lst 7 15) = [4] ∧ (lst 7 15).setIfInBounds 4 true = lst 7 31 := ⟨by kernel_rfl, by kernel_rfl⟩

theorem wye_o27 : Region.ready .any (regOf 19 Try.f7) (lst 7 27) = [2] ∧ (lst 7 27).setIfInBounds 2 true = lst 7 31 := ⟨by kernel_rfl, by kernel_rfl⟩

theorem wye_o26 : Region.ready .any (regOf 19 Try.f7) (lst 7 26) = [0] ∧ (lst 7 26).setIfInBounds 0 true = lst 7 27 := ⟨by kernel_rfl, by kernel_rfl⟩

theorem wye_o31 : Region.ready .any (regOf 19 Try.f7) (lst 7 31) = [5] ∧ (lst 7 31).setIfInBounds 5 true = lst 7 63 := ⟨by kernel_rfl, by kernel_rfl⟩

theorem wye_t63 : Region.free .any (regOf 19 Try.f7) (lst 7 63) 6 = true ∧ (Region.ready .any (regOf 19 Try.f7) (lst 7 63)).contains 6 = true ∧ (lst 7 63).setIfInBounds 6 true = lst 7 127 := ⟨by kernel_rfl, by kernel_rfl, by kernel_rfl⟩

theorem wye_end : Region.ready .any (regOf 19 Try.f7) (lst 7 127) = [] := by kernel_rfl

end Go.Proofs.Ythchcnflflafeaa

/- RunKeeps: a run that was flushed survives any power cut. -/
namespace Go.Proofs.Ythchcnflflafeaa
open Go.RowKit
open Bm (Ov)
set_option linter.unusedVariables false

/-- What is there again. -/
def Fin (d : Dm.Ds) (a b : List Cm.Cv) : Prop := ∀ k t m, Rl.Lg 0 (Dm.kept d k t 2) m → m = a ∨ m = b

set_option maxRecDepth 20000 in
set_option maxHeartbeats 16000000 in
theorem runKeeps_walk (v : Value) (r : List Rw) (fu k t : Int) (w : World) (h : IsLL w v r) (hf : FitL r) (hr : r.length * 24 ≤ 140737488351232) (hfu : (Lit.int .i64 fu).wf = true) (hk : (Lit.int .i64 k).wf = true) (ht : (Lit.int .i64 t).wf = true) :
    Calls Try.prog 7 #[v, .int .i64 fu, .int .i64 k, .int .i64 t] w fun e w' => e = .returned (.bool true) ∧ Below w.heap.size w w' := by
  have i1 := range_i64 (zs := [fu]) (by simpa using hfu) 0
  have i2 := range_i64 (zs := [t]) (by simpa using ht) 0
  simp at i1 i2
  have HQ := hide h
  have HFQ := hide hf
  obtain ⟨qa, qc, hvl, _, _⟩ := h.1.shape
  subst hvl
  clear h hf hfu hk ht
  go_enter Try.func7, Try.ntmps7
  go_wp2_with fail
  refine (lives_any w).mono ?_
  rintro E w1 ⟨rfl, b1⟩
  have B1 := hide b1
  clear b1
  by_cases hn0 : (40 : Int) < r.length
  · go_wp2
    go_ret
    exact ⟨rfl, B1.out⟩
  by_cases hk0 : k < 0
  · go_wp2
    go_ret
    exact ⟨rfl, B1.out⟩
  by_cases ht0 : t < 0
  · go_wp2
    go_ret
    exact ⟨rfl, B1.out⟩
  have hk1 : 0 ≤ k := by omega
  have ht1 : 0 ≤ t := by omega
  have hll : r.length ≤ 40 := by omega
  have HQ1 := hide (HQ.out.below B1.out)
  clear HQ
  go_wp2_with fail
  refine (new_any w1).mono ?_
  rintro E w2 ⟨rfl, K2, b2⟩
  have HO := hide (rnew_any w1 w2 w1.heap.size (Nat.le_refl _) K2 b2)
  clear K2 b2
  go_wp2_with fail
  refine HO.out.mono ?_
  rintro E w3 ⟨p, F3, rfl, W3, g3, b3⟩
  obtain ⟨q, hq⟩ : ∃ q, q = w1.heap.size := ⟨_, rfl⟩
  rw [← hq] at W3
  have K3 : Hid (KW w1 w3 p q F3 rs0) := hide ⟨W3, g3, b3⟩
  have HFU := hide (fun hn => K3.out.fused fu hn rfl)
  rw [← hq]
  clear HO W3 g3 b3 hq
  by_cases hf0 : 0 ≤ fu
  case' pos =>
    have HF1 := hide (HFU.out hf0)
    go_wp2_with fail
    refine HF1.out.mono ?_
    rintro E w4 ⟨rfl, F4, K4, _, _⟩
    have KS := hide K4
    have NS : Hid (Rl.Kin ⟨{ Dm.new with has := true, left := fu.toNat }, [], false⟩ []) := hide ⟨rfl, rfl, rfl, trivial, rfl, rfl⟩
    have BS : Hid (Big 0 0 ({ Dm.new with has := true, left := fu.toNat } : Dm.Ds)) := hide ⟨⟨fun f => by simp [Dm.new, Dm.bulk], by simp [Dm.new], by simp [Dm.new]⟩, by simp; omega⟩
    clear K4 HF1 HFU K3
  case' neg =>
    have KS := K3
    have NS : Hid (Rl.Kin rs0 []) := hide rnew_kin
    have BS : Hid (Big 0 0 Dm.new) := hide big_new
    clear K3 HFU
  all_goals
    go_upto_block 0 with fail
    go_cut [11, 12, 13, 14, 15] from 50 to 94 (fun _ev sv pv _iv _xv wx => ∃ (F : Nat → Prop) (s : Rl.Rs) (ra rp : List Cw) (la lp : List Cm.Cv), Hid (KW w1 wx p q F s) ∧ Hid (Kp w1 wx F sv ra la) ∧ Hid (Kp w1 wx F pv rp lp) ∧ Hid (Fin s.d la lp) ∧ Hid (Big 5000000 60000 s.d))
    case first =>
      go_wp2_with fail
      go_loopw [11, 12, 13, 14, 15] (fun ev sv pv iv _xv wr => ∃ (j : Nat) (F : Nat → Prop) (s : Rl.Rs) (ra : List Cw) (la : List Cm.Cv), j ≤ r.length ∧ iv = .int .i64 j ∧ pv = sv ∧ (∃ e, ev = .int .i64 e) ∧ Hid (KW w1 wr p q F s) ∧ Hid (Kp w1 wr F sv ra la) ∧ Hid (Rl.Kin s la) ∧ Hid (Big (52236 * j) (818 * j) s.d) ∧ Hid (la.length = j ∧ Cm.lastN 0 la = j)) (fun _ _ _ iv _ _ => r.length - (intOf iv).toNat)
      case atStart => exact ⟨0, _, _, [], [], by omega, rfl, rfl, ⟨_, rfl⟩, KS, hide ⟨Rq.nil _ _, fun g e => by simp [QB, Value.ownBlock] at e⟩, NS, BS, hide ⟨rfl, rfl⟩⟩
      case round =>
        obtain ⟨j, F, s, ra, la, hj, rfl, rfl, ⟨e0, rfl⟩, KR, PR, NR, BR, LR⟩ := hrel
        obtain ⟨sa, ka, hsv, _, _⟩ := PR.out.1.row.row.shape
        subst hsv
        clear KS NS BS
        by_cases hlt : j < r.length
        · obtain ⟨qb, qo, qk, hvx, _, _, _, hcell⟩ := (HQ1.out.below KR.out.bel).full (by omega)
          simp only [Value.slice.injEq, true_and] at hvx
          obtain ⟨rfl, rfl⟩ := hvx
          obtain ⟨a, ha⟩ : ∃ a, r[j]? = some a := ⟨r[j], by rw [List.getElem?_eq_getElem]⟩
          have d0 := hcell j a ha
          have AO := hide ((HQ1.out.below KR.out.bel).2 a (List.mem_of_getElem? ha))
          have AF := hide (HFQ.out a (List.mem_of_getElem? ha))
          obtain ⟨ao, ak, hao, _, _⟩ := AO.out.shape
          have HAO := hide hao
          rw [hao] at d0
          have hlt' : (j : Int) < r.length := by omega
          have hj0 : (0 : Int) ≤ (j : Int) := by omega
          have hrl : ra.length = j := by rw [PR.out.1.len]; exact LR.out.1
          have HRL := hide hrl
          clear hcell ha hao
          by_cases h40 : (40 : Int) < a.l.length
          · go_wp2
            go_ret
            exact ⟨rfl, B1.out.trans (KR.out.bel.mono B1.out.size)⟩
          have SO := hide (sorted_any _ a.l wr AO.out AF.out (by omega))
          rw [HAO.out] at SO
          rw [hrl] at PR ⊢
          have hw1 : IntKind.i64.wrap ((j : Int) + 1) = (j : Int) + 1 := wrap_i64_small _ (by omega) (by omega)
          go_wp2_with fail
          refine SO.out.mono ?_
          rintro E wa ⟨u, rfl, ou, ba⟩
          obtain ⟨ua, uk, hu, _, _⟩ := ou.is.shape
          subst hu
          obtain ⟨wb, hwb, _, szb, belb, bB, x5, x6, x7⟩ := new_step wa 32 (.int .i64 0) (.int .i64 0) (.slice none 0 0) (.int .i64 ((j : Int) + 1)) (.int .i64 ((j : Int) + 1)) (.slice ua (srt a.l).length uk)
          have bab := ba.trans (belb.mono ba.size)
          have hck := srt_chk a.l (by omega) ((j : Int) + 1) (by omega) (by omega)
          obtain ⟨y1, y2, y3, y4, y5⟩ := fit_run hck
          have KB := hide (KR.out.below bab)
          have PB := hide (PR.out.below bab)
          have OB := hide (ou.below belb)
          have HFL := hide (KB.out.flushed (rbig_of BR.out (by omega) (by omega)) ⟨(j : Int) + 1, (j : Int) + 1, .slice ua (srt a.l).length uk, srt a.l⟩ ⟨_, OB.out, KR.out.rw.lt⟩ y1 ⟨y3, y4⟩ y2)
          have K3 := Rl.kin_flu NR.out ⟨(j : Int) + 1, (j : Int) + 1, srt a.l⟩ hck (by rw [LR.out.2]; show (j : Int) + 1 - 1 = j; omega)
          have BF := hide (big_flu (c := ⟨(j : Int) + 1, (j : Int) + 1, srt a.l⟩) BR.out)
          obtain ⟨fl, hfl⟩ : ∃ x, Rl.flu s ⟨(j : Int) + 1, (j : Int) + 1, srt a.l⟩ = x := ⟨_, rfl⟩
          simp only [Cw.c] at HFL
          rw [hfl] at HFL K3 BF
          have HBB := hide bB
          have FLT := hide KR.out.rw.lt
          have HSA := hide ba.size
          have hltb : wa.heap.size < wb.heap.size := by omega
          clear SO ba belb bB bab ou y1 y2 y3 y4 y5 d0 hfl
          go_wp2_with fail
          refine HFL.out.mono ?_
          rintro E wc ⟨rfl, Fc, KC, oc, nc⟩
          have hsr := KR.out.bel.size
          have hBc := (oc.block wa.heap.size hltb (fun hf => by have := FLT.out _ hf; have := HSA.out; omega)).trans HBB.out
          have z5 : wc.cell? ⟨wa.heap.size, 0, none⟩ = some (.int .i64 ((j : Int) + 1)) := blk_cell hBc 0 rfl
          have z6 : wc.cell? ⟨wa.heap.size, 1, none⟩ = some (.int .i64 ((j : Int) + 1)) := blk_cell hBc 1 rfl
          have z7 : wc.cell? ⟨wa.heap.size, 2, none⟩ = some (.slice ua (srt a.l).length uk) := blk_cell hBc 2 rfl
          have PC := PB.out.out oc nc
          have OC : OwnO 35 w1.heap.size wc (.slice ua (srt a.l).length uk) (srt a.l) := (OB.out.agree fun g hg => oc.block g (OB.out.block g hg).2 fun hf => by have h1 := (OB.out.block g hg).1; have h2 := FLT.out g hf; omega).rebase hsr
          have ucF : ∀ g, (Value.slice ua (srt a.l).length uk).ownBlock = some g → ¬ Fc g := fun g hg hf => by
            have h1 := OB.out.block g hg
            rcases nc g hf with e | e
            · have h2 := FLT.out g e; omega
            · omega
          have hgd : Rl.Good 0 (la ++ [⟨(j : Int) + 1, (j : Int) + 1, srt a.l⟩]) := by
            rcases K3 with ⟨_, N1⟩ | ⟨_, _, _, D1⟩
            · exact N1.good
            · exact D1.good
          obtain ⟨W0, hW0⟩ : ∃ x, wc.drew = x := ⟨_, rfl⟩
          have b00 : Below wc.heap.size wc W0 := by rw [← hW0]; exact (Below.refl _ _).drew
          have HKC := hide (KC.below b00)
          have HPC := hide (PC.below b00)
          have EX := hide (kp_ext (c := ⟨(j : Int) + 1, (j : Int) + 1, .slice ua (srt a.l).length uk, srt a.l⟩) HPC.out (OC.below b00) ucF hgd HKC.out.rw.lt HKC.out.bel.size (by have := HRL.out; omega))
          rw [HRL.out] at EX
          have hB0 := (b00.block wa.heap.size (blk_lt hBc)).trans hBc
          have SX : Hid (∀ W, Below W0.heap.size W0 W → W.cell? ⟨wa.heap.size, 0, none⟩ = some (.int .i64 ((j : Int) + 1)) ∧ W.cell? ⟨wa.heap.size, 1, none⟩ = some (.int .i64 ((j : Int) + 1)) ∧ W.cell? ⟨wa.heap.size, 2, none⟩ = some (.slice ua (srt a.l).length uk)) := hide fun W hW => by
            have q := (hW.block wa.heap.size (blk_lt hB0)).trans hB0
            exact ⟨blk_cell q 0 rfl, blk_cell q 1 rfl, blk_cell q 2 rfl⟩
          have F0 := SX.out W0 (Below.refl _ _)
          have K3 := hide K3
          clear HFL PB OB hsr PC OC ucF hgd KC oc nc z5 z6 z7 hBc hB0 x5 x6 x7 b00 HBB FLT HSA
          obtain ⟨⟨V, hV, bV, ⟨v1, wA, hA1, bA1, ⟨sa1, sk1, rfl⟩, UA, hUA, bUA, v2, wA2, hA2, bA2, GA⟩, UB, hUB, bUB, v3, wB, hB1, bB1, ⟨sa3, sk3, rfl⟩, v4, wB2, hB2, bB2, GB⟩, UC, hUC, bUC, VC, hVC, bVC, v5, wC, hC1, bC1, ⟨sa5, sk5, rfl⟩, v6, wC2, hC2, bC2, GC⟩ := EX.out
          obtain ⟨GA, sa2, sk2, rfl⟩ := GA
          obtain ⟨GB, sa4, sk4, rfl⟩ := GB
          obtain ⟨GC, sa6, sk6, rfl⟩ := GC
          have GA := hide GA
          have GB := hide GB
          have GC := hide GC
          have FV := SX.out V bV; have FA1 := SX.out wA bA1; have FUA := SX.out UA bUA; have FA2 := SX.out wA2 bA2
          have FUB := SX.out UB bUB; have FB1 := SX.out wB bB1; have FB2 := SX.out wB2 bB2
          have FUC := SX.out UC bUC; have FVC := SX.out VC bVC; have FC1 := SX.out wC bC1; have FC2 := SX.out wC2 bC2
          clear EX
          go_wp2_with fail
          refine region_any (ops := (regOf 19 Try.f7)) (S := fun W => W.cell? ⟨wa.heap.size, 0, none⟩ = some (.int .i64 ((j : Int) + 1)) ∧ W.cell? ⟨wa.heap.size, 1, none⟩ = some (.int .i64 ((j : Int) + 1)) ∧ W.cell? ⟨wa.heap.size, 2, none⟩ = some (.slice ua (srt a.l).length uk)) (by kernel_rfl) wye_size ?_
          rw [wye_new, hW0]
          refine any_take (v := ?_) wye_t0 (by kernel_rfl) (fun _ _ _ _ _ h => h) F0 rfl rfl (by rfl) ?_ ?_
          rotate_left 1
          · intro w hS
            (try dsimp only at hS)
            go_simp
            all_goals with_reducible rfl
          simp only [Act.put, List.setIfInBounds_toArray, List.set_cons_zero, List.set_cons_succ]
          refine any_take (v := ?_) wye_t2 (by kernel_rfl) (fun _ _ _ _ _ h => h) F0 rfl rfl (by rfl) ?_ ?_
          rotate_left 1
          · intro w hS
            (try dsimp only at hS)
            go_simp
            all_goals with_reducible rfl
          simp only [Act.put, List.setIfInBounds_toArray, List.set_cons_zero, List.set_cons_succ]
          refine any_two wye_f10 ?_ ?_
          · refine any_op rfl (by rfl) (fun K hK => ?_)
            go_simp
            go_wp2_with fail
            refine hK.out _ _ FV ?_
            clear hK K
            try simp only [Act.put, List.setIfInBounds_toArray, List.set_cons_zero, List.set_cons_succ]
            refine any_two wye_f11 ?_ ?_
            · refine any_append rfl (by rfl) (.tmp 77) (.tmp 78) 47 rfl rfl rfl hA1 ⟨FA1, ?_⟩
              simp only [Act.put, List.setIfInBounds_toArray, List.set_cons_zero, List.set_cons_succ]
              refine any_one wye_o15 ?_
              refine any_op rfl (by rfl) (fun K hK => ?_)
              go_simp
              go_wp2_with fail
              refine hK.out _ _ FUA ?_
              clear hK K
              try simp only [Act.put, List.setIfInBounds_toArray, List.set_cons_zero, List.set_cons_succ]
              refine any_one wye_o31 ?_
              refine any_append rfl (by rfl) (.tmp 79) (.tmp 81) 47 rfl rfl rfl hA2 ⟨FA2, ?_⟩
              simp only [Act.put, List.setIfInBounds_toArray, List.set_cons_zero, List.set_cons_succ]
              refine any_take (v := ?_) wye_t63 (by kernel_rfl) (fun _ _ _ _ _ h => h) FA2 rfl rfl (by rfl) ?_ ?_
              rotate_left 1
              · intro w hS
                (try dsimp only at hS)
                go_simp
                all_goals with_reducible rfl
              simp only [Act.put, List.setIfInBounds_toArray, List.set_cons_zero, List.set_cons_succ]
              refine any_done wye_end ?_
              have PX := GA
              have BX := hide bA2
              obtain ⟨wx, hwx⟩ : ∃ x, wA2 = x := ⟨_, rfl⟩
              obtain ⟨sx, hsx⟩ : ∃ x, sa2 = x := ⟨_, rfl⟩
              obtain ⟨kx, hkx⟩ : ∃ x, sk2 = x := ⟨_, rfl⟩
              rw [hwx] at PX BX ⊢
              rw [hsx, hkx] at PX ⊢
              clear hV hA1 hUA hA2 hUB hB1 hB2 hUC hVC hC1 hC2 bV bA1 bUA bA2 bUB bB1 bB2 bUC bVC bC1 bC2 FV FA1 FUA FA2 FUB FB1 FB2 FUC FVC FC1 FC2 GA GB GC hwx hsx hkx F0
              have KX := hide (HKC.out.below BX.out)
              have PO := hide (HPC.out.below BX.out)
              rcases K3.out with ⟨e9, N1⟩ | ⟨e9, _, hl6, D1⟩
              · rw [e9]
                have NN := hide N1
                have LN : Hid ((la ++ [(⟨(j : Int) + 1, (j : Int) + 1, srt a.l⟩ : Cm.Cv)]).length = j + 1 ∧ Cm.lastN 0 (la ++ [(⟨(j : Int) + 1, (j : Int) + 1, srt a.l⟩ : Cm.Cv)]) = ((j + 1 : Nat) : Int)) := hide ⟨by rw [List.length_append, LR.out.1]; rfl, by rw [Rl.last_snoc]; show (j : Int) + 1 = _; omega⟩
                have BN : Hid (Big (52236 * (j + 1)) (818 * (j + 1)) fl.2.d) := hide (BF.out.mono (by omega) (by omega))
                clear e9 N1 K3 HPC HKC BX PO SX
                go_wp2
                go_roundw
                case rel => exact ⟨j + 1, _, _, _, _, by omega, by go_num, rfl, ⟨_, rfl⟩, KX, PX, NN, BN, LN⟩
                case measure => simp [intOf]; omega
              · rw [e9]
                have FI : Hid (Fin fl.2.d la (la ++ [⟨(j : Int) + 1, (j : Int) + 1, srt a.l⟩])) := hide fun k t m hm => Rl.kend_two D1 hm
                have HEN := hide (hrend_any p q Fc wx fl.2 KX.out.rw)
                rw [hl6, LR.out.2] at HEN
                have BN : Hid (Big 5000000 60000 fl.2.d) := hide (BF.out.mono (by omega) (by omega))
                clear e9 D1 hl6 K3 HPC HKC BX SX
                go_wp2_with fail
                refine HEN.out.mono ?_
                rintro E wy ⟨rfl, rfl⟩
                clear HEN
                go_wp2_with fail
                go_meet
                case rel => exact ⟨_, _, _, _, _, _, KX, PO, PX, FI, BN⟩
            · refine any_op rfl (by rfl) (fun K hK => ?_)
              go_simp
              go_wp2_with fail
              refine hK.out _ _ FUB ?_
              clear hK K
              try simp only [Act.put, List.setIfInBounds_toArray, List.set_cons_zero, List.set_cons_succ]
              refine any_one wye_o27 ?_
              refine any_append rfl (by rfl) (.tmp 77) (.tmp 78) 47 rfl rfl rfl hB1 ⟨FB1, ?_⟩
              simp only [Act.put, List.setIfInBounds_toArray, List.set_cons_zero, List.set_cons_succ]
              refine any_one wye_o31 ?_
              refine any_append rfl (by rfl) (.tmp 79) (.tmp 81) 47 rfl rfl rfl hB2 ⟨FB2, ?_⟩
              simp only [Act.put, List.setIfInBounds_toArray, List.set_cons_zero, List.set_cons_succ]
              refine any_take (v := ?_) wye_t63 (by kernel_rfl) (fun _ _ _ _ _ h => h) FB2 rfl rfl (by rfl) ?_ ?_
              rotate_left 1
              · intro w hS
                (try dsimp only at hS)
                go_simp
                all_goals with_reducible rfl
              simp only [Act.put, List.setIfInBounds_toArray, List.set_cons_zero, List.set_cons_succ]
              refine any_done wye_end ?_
              have PX := GB
              have BX := hide bB2
              obtain ⟨wx, hwx⟩ : ∃ x, wB2 = x := ⟨_, rfl⟩
              obtain ⟨sx, hsx⟩ : ∃ x, sa4 = x := ⟨_, rfl⟩
              obtain ⟨kx, hkx⟩ : ∃ x, sk4 = x := ⟨_, rfl⟩
              rw [hwx] at PX BX ⊢
              rw [hsx, hkx] at PX ⊢
              clear hV hA1 hUA hA2 hUB hB1 hB2 hUC hVC hC1 hC2 bV bA1 bUA bA2 bUB bB1 bB2 bUC bVC bC1 bC2 FV FA1 FUA FA2 FUB FB1 FB2 FUC FVC FC1 FC2 GA GB GC hwx hsx hkx F0
              have KX := hide (HKC.out.below BX.out)
              have PO := hide (HPC.out.below BX.out)
              rcases K3.out with ⟨e9, N1⟩ | ⟨e9, _, hl6, D1⟩
              · rw [e9]
                have NN := hide N1
                have LN : Hid ((la ++ [(⟨(j : Int) + 1, (j : Int) + 1, srt a.l⟩ : Cm.Cv)]).length = j + 1 ∧ Cm.lastN 0 (la ++ [(⟨(j : Int) + 1, (j : Int) + 1, srt a.l⟩ : Cm.Cv)]) = ((j + 1 : Nat) : Int)) := hide ⟨by rw [List.length_append, LR.out.1]; rfl, by rw [Rl.last_snoc]; show (j : Int) + 1 = _; omega⟩
                have BN : Hid (Big (52236 * (j + 1)) (818 * (j + 1)) fl.2.d) := hide (BF.out.mono (by omega) (by omega))
                clear e9 N1 K3 HPC HKC BX PO SX
                go_wp2
                go_roundw
                case rel => exact ⟨j + 1, _, _, _, _, by omega, by go_num, rfl, ⟨_, rfl⟩, KX, PX, NN, BN, LN⟩
                case measure => simp [intOf]; omega
              · rw [e9]
                have FI : Hid (Fin fl.2.d la (la ++ [⟨(j : Int) + 1, (j : Int) + 1, srt a.l⟩])) := hide fun k t m hm => Rl.kend_two D1 hm
                have HEN := hide (hrend_any p q Fc wx fl.2 KX.out.rw)
                rw [hl6, LR.out.2] at HEN
                have BN : Hid (Big 5000000 60000 fl.2.d) := hide (BF.out.mono (by omega) (by omega))
                clear e9 D1 hl6 K3 HPC HKC BX SX
                go_wp2_with fail
                refine HEN.out.mono ?_
                rintro E wy ⟨rfl, rfl⟩
                clear HEN
                go_wp2_with fail
                go_meet
                case rel => exact ⟨_, _, _, _, _, _, KX, PO, PX, FI, BN⟩
          · refine any_op rfl (by rfl) (fun K hK => ?_)
            go_simp
            go_wp2_with fail
            refine hK.out _ _ FUC ?_
            clear hK K
            try simp only [Act.put, List.setIfInBounds_toArray, List.set_cons_zero, List.set_cons_succ]
            refine any_one wye_o26 ?_
            refine any_op rfl (by rfl) (fun K hK => ?_)
            go_simp
            go_wp2_with fail
            refine hK.out _ _ FVC ?_
            clear hK K
            try simp only [Act.put, List.setIfInBounds_toArray, List.set_cons_zero, List.set_cons_succ]
            refine any_one wye_o27 ?_
            refine any_append rfl (by rfl) (.tmp 77) (.tmp 78) 47 rfl rfl rfl hC1 ⟨FC1, ?_⟩
            simp only [Act.put, List.setIfInBounds_toArray, List.set_cons_zero, List.set_cons_succ]
            refine any_one wye_o31 ?_
            refine any_append rfl (by rfl) (.tmp 79) (.tmp 81) 47 rfl rfl rfl hC2 ⟨FC2, ?_⟩
            simp only [Act.put, List.setIfInBounds_toArray, List.set_cons_zero, List.set_cons_succ]
            refine any_take (v := ?_) wye_t63 (by kernel_rfl) (fun _ _ _ _ _ h => h) FC2 rfl rfl (by rfl) ?_ ?_
            rotate_left 1
            · intro w hS
              (try dsimp only at hS)
              go_simp
              all_goals with_reducible rfl
            simp only [Act.put, List.setIfInBounds_toArray, List.set_cons_zero, List.set_cons_succ]
            refine any_done wye_end ?_
            have PX := GC
            have BX := hide bC2
            obtain ⟨wx, hwx⟩ : ∃ x, wC2 = x := ⟨_, rfl⟩
            obtain ⟨sx, hsx⟩ : ∃ x, sa6 = x := ⟨_, rfl⟩
            obtain ⟨kx, hkx⟩ : ∃ x, sk6 = x := ⟨_, rfl⟩
            rw [hwx] at PX BX ⊢
            rw [hsx, hkx] at PX ⊢
            clear hV hA1 hUA hA2 hUB hB1 hB2 hUC hVC hC1 hC2 bV bA1 bUA bA2 bUB bB1 bB2 bUC bVC bC1 bC2 FV FA1 FUA FA2 FUB FB1 FB2 FUC FVC FC1 FC2 GA GB GC hwx hsx hkx F0
            have KX := hide (HKC.out.below BX.out)
            have PO := hide (HPC.out.below BX.out)
            rcases K3.out with ⟨e9, N1⟩ | ⟨e9, _, hl6, D1⟩
            · rw [e9]
              have NN := hide N1
              have LN : Hid ((la ++ [(⟨(j : Int) + 1, (j : Int) + 1, srt a.l⟩ : Cm.Cv)]).length = j + 1 ∧ Cm.lastN 0 (la ++ [(⟨(j : Int) + 1, (j : Int) + 1, srt a.l⟩ : Cm.Cv)]) = ((j + 1 : Nat) : Int)) := hide ⟨by rw [List.length_append, LR.out.1]; rfl, by rw [Rl.last_snoc]; show (j : Int) + 1 = _; omega⟩
              have BN : Hid (Big (52236 * (j + 1)) (818 * (j + 1)) fl.2.d) := hide (BF.out.mono (by omega) (by omega))
              clear e9 N1 K3 HPC HKC BX PO SX
              go_wp2
              go_roundw
              case rel => exact ⟨j + 1, _, _, _, _, by omega, by go_num, rfl, ⟨_, rfl⟩, KX, PX, NN, BN, LN⟩
              case measure => simp [intOf]; omega
            · rw [e9]
              have FI : Hid (Fin fl.2.d la (la ++ [⟨(j : Int) + 1, (j : Int) + 1, srt a.l⟩])) := hide fun k t m hm => Rl.kend_two D1 hm
              have HEN := hide (hrend_any p q Fc wx fl.2 KX.out.rw)
              rw [hl6, LR.out.2] at HEN
              have BN : Hid (Big 5000000 60000 fl.2.d) := hide (BF.out.mono (by omega) (by omega))
              clear e9 D1 hl6 K3 HPC HKC BX SX
              go_wp2_with fail
              refine HEN.out.mono ?_
              rintro E wy ⟨rfl, rfl⟩
              clear HEN
              go_wp2_with fail
              go_meet
              case rel => exact ⟨_, _, _, _, _, _, KX, PO, PX, FI, BN⟩
        · obtain rfl : j = r.length := by omega
          have hlt' : ¬ (r.length : Int) < r.length := by omega
          have FI : Hid (Fin s.d la la) := hide fun k t m hm => .inl (Rl.kend_same NR.out.fin hm)
          have BN : Hid (Big 5000000 60000 s.d) := hide (BR.out.mono (by omega) (by omega))
          go_wp2_with fail
          go_meet
          case rel => exact ⟨_, _, _, _, _, _, KR, PR, PR, FI, BN⟩
    case rest =>
      obtain ⟨F, s, ra, rp, la, lp, KE, PA, PP, FI, BE⟩ := hcut
      obtain ⟨sa1, ka1, hav, _, _⟩ := PA.out.1.row.row.shape
      obtain ⟨sa2, ka2, hsv, _, _⟩ := PP.out.1.row.row.shape
      subst hav hsv
      obtain ⟨Fk, hPk⟩ := KE.out.pk
      have HON := hide (on_any q Fk _ _ hPk)
      clear hPk KS NS BS
      by_cases hon : s.d.on = true
      case' pos =>
        have HPU := hide (KE.out.pulled hon)
        rw [hon] at HON
        go_wp2_with fail
        refine HON.out.mono ?_
        rintro E wx ⟨rfl, rfl⟩
        go_wp2_with fail
        refine HPU.out.mono ?_
        rintro E wp ⟨rfl, Fp, KP, op, np⟩
        have PA1 := hide (PA.out.out op np)
        have PP1 := hide (PP.out.out op np)
        have FI1 : Hid (Fin (Dm.dark s.d) la lp) := hide FI.out
        have HST := hide (KP.started k t hk1 ht1 i2.2 rfl (big_dark BE.out))
        clear KP KE HPU HON BE hon PA PP FI op np
        go_wp2_with fail
      case' neg =>
        have hon' : s.d.on = false := by simpa using hon
        rw [hon'] at HON
        have HST := hide (KE.out.started k t hk1 ht1 i2.2 hon' BE.out)
        have PA1 := PA
        have PP1 := PP
        have FI1 := FI
        go_wp2_with fail
        refine HON.out.mono ?_
        rintro E wp ⟨rfl, rfl⟩
        clear KE HON BE hon hon' PA PP FI
        go_wp2_with fail
      all_goals
        refine HST.out.mono ?_
        rintro E wz ⟨rfl, st, ⟨Fz, KZ, oz, nz⟩, SZ⟩
        have PA2 := hide (PA1.out.out oz nz)
        have PP2 := hide (PP1.out.out oz nz)
        have HOP := hide (KZ.opened (SZ.big.mono (by decide) (by decide)) SZ.on SZ.has)
        have HLD := hide SZ.hld
        clear HST KZ SZ PA1 PP1 oz nz
        go_wp2_with fail
        refine HOP.out.mono ?_
        rintro E wo ⟨p2, F2, m, rfl, K2, o2, n2, LG⟩
        have hmm := FI1.out k.toNat t.toNat m (by have h1 := LG.out; rw [HLD.out] at h1; exact h1)
        have PA3 := hide (PA2.out.out o2 n2)
        have PP3 := hide (PP2.out.out o2 n2)
        have HK2 := hide K2
        have HLI := hide (hlist_any p2 q F2 wo _ K2.rw)
        clear HOP K2 LG PA2 PP2 o2 n2 HLD FI1
        go_wp2_with fail
        refine HLI.out.mono ?_
        rintro E wt ⟨vt, rt, rfl, Rt, _, bt⟩
        obtain ⟨ta, tk9, hvt, _, _⟩ := Rt.row.row.shape
        subst hvt
        have PA4 := PA3.out.below bt
        have SR := hide (sameRs_any _ _ rt ra wt Rt.isc PA4.1.isc Rt.fit PA4.1.fit (Nat.le_trans Rt.len_le (by decide)) (Nat.le_trans PA4.1.len_le (by decide)))
        rw [Rt.is, PA4.1.is] at SR
        have PP4 := hide (PP3.out.below bt)
        have HK4 := hide (HK2.out.below bt)
        obtain ⟨sb, hsb⟩ : ∃ x, sameV (Rl.Rs.mk (ropD st m) m false).l la = x := ⟨_, rfl⟩
        rw [hsb] at SR
        have HSB := hide hsb
        have HMM := hide hmm
        clear HLI Rt bt PA3 PP3 HK2 PA4 hsb hmm
        go_wp2_with fail
        refine SR.out.mono ?_
        rintro E w5 ⟨rfl, b5⟩
        have K5 := HK4.out.below b5
        have PP5 := hide (PP4.out.below b5)
        have HK5 := hide K5
        have HLI := hide (hlist_any p2 q F2 w5 _ K5.rw)
        clear SR PP4 HK4 b5 K5
        cases sb with
        | true =>
          go_wp2
          go_ret
          exact ⟨rfl, B1.out.trans (HK5.out.bel.mono B1.out.size)⟩
        | false =>
          have hml : m = lp := by
            rcases HMM.out with e | e
            · exfalso
              have h1 := HSB.out
              rw [e, sameV_self] at h1
              exact absurd h1 (by decide)
            · exact e
          have HML := hide hml
          clear hml
          go_wp2_with fail
          refine HLI.out.mono ?_
          rintro E w6 ⟨v6, r6, rfl, R6, _, b6⟩
          obtain ⟨ta6, tk6, hv6, _, _⟩ := R6.row.row.shape
          subst hv6
          have PP6 := PP5.out.below b6
          have SR := hide (sameRs_any _ _ r6 rp w6 R6.isc PP6.1.isc R6.fit PP6.1.fit (Nat.le_trans R6.len_le (by decide)) (Nat.le_trans PP6.1.len_le (by decide)))
          rw [R6.is, PP6.1.is, HML.out, sameV_self] at SR
          have BL := hide (HK5.out.below b6).bel
          clear HLI R6 b6 PP6 PP5 HK5
          go_wp2_with fail
          refine SR.out.mono ?_
          rintro E w7 ⟨rfl, b7⟩
          go_wp2
          go_ret
          exact ⟨rfl, B1.out.trans ((BL.out.trans (b7.mono BL.out.size)).mono B1.out.size)⟩

end Go.Proofs.Ythchcnflflafeaa

/- Proved: RunKeeps -/
namespace Go.Proofs.Ythchcnflflafeaa
open Go.ChangeShapes Go.WideShapes Go.ChangeAt Go.RowKit
open Go.ChangeMaps (open_string shut_string)
set_option linter.unusedVariables false

namespace runKeepsFrame
theorem own : ownKnob Try.prog.godebug = none := by kernel_rfl
theorem laidOut : laidOutB Try.prog = true := by kernel_rfl
theorem cells30 : Try.prog.cellsOf 30 = 1 := by kernel_rfl
theorem bytes30 : Try.prog.bytesOf 30 = 24 := by kernel_rfl
theorem cells35 : Try.prog.cellsOf 35 = 3 := by kernel_rfl
theorem bytes35 : Try.prog.bytesOf 35 = 40 := by kernel_rfl

set_option maxRecDepth 100000 in
theorem lifted (os : Os) (started : os.Started) (H : Type) (enc : TypeId × Value → H) :
    ReturnsInHanded {} Try.checked os 7 .any (Rows.runKeepsSpec.pre6 enc Try.prog Try.f7 Rows.runKeepsRow.domain false) (Rows.runKeepsSpec.post enc Try.prog Try.f7 false true false false) := by
  refine returnsInHanded_of_change_sized (C := Try.checked) own started (by kernel_rfl) Try.func7
    (ChangeSpec.witness6 (enc := enc) (C := Try.checked) false ⟨#[], #[.slice none 0 0, .int .i64 0, .int .i64 0, .int .i64 0], []⟩ 8 (by kernel_rfl) (by kernel_rfl) (by kernel_rfl) (by kernel_rfl)) ?_
  intro W base args ds gs before hval0 hW hcnd hsz0 _
  have hsz : (DataW.weightsEach Try.prog (Try.f7.params.toList ++ Rows.runKeepsSpec.plain.varTypes Try.prog) (ds ++ gs)).all (· ≤ reachBytes) = true := hsz0
  clear hsz0
  have hval : ∀ (j : Nat) t v, Try.f7.params[j]? = some t → args[j]? = some v → Value.okWide Try.prog W .any base t v := hval0
  have hW' := hW
  obtain ⟨p, q, hA0, hV, rfl, hfz, hnd⟩ := hW
  have hA : DataW.TrodAll enc Try.prog W 0 (fun _ => true) true Try.f7.params.toList args.toList ds p := hA0
  rw [Try.params7] at hA hval hsz
  obtain ⟨v0, vs0, d0, ds0, p0, q0, hargs, rfl, rfl, h0, r0⟩ := trodAll_cons hA
  obtain ⟨v1, vs1, d1, ds1, p1, q1, rfl, rfl, rfl, h1, r1⟩ := trodAll_cons r0
  obtain ⟨v2, vs2, d2, ds2, p2, q2, rfl, rfl, rfl, h2, r2⟩ := trodAll_cons r1
  obtain ⟨v3, vs3, d3, ds3, p3, q3, rfl, rfl, rfl, h3, r3⟩ := trodAll_cons r2
  obtain ⟨rfl, rfl, rfl⟩ := trodAll_nil r3
  obtain rfl : args = #[v0, v1, v2, v3] := by cases args; simp_all
  obtain ⟨rfl, rfl⟩ := trodVars_none hV
  obtain ⟨a0, len0, cap0, rfl⟩ := okWide_slice Try.underlying52 (hval 0 52 v0 rfl rfl)
  have k0 := h0
  have lt0 : ∀ x ∈ p0, x.block < W.heap.size := by obtain ⟨m, hm⟩ := k0; exact DataW.trod_lt m _ _ _ hm
  obtain ⟨z0, w0, g0, b0⟩ : ∃ r, IsLL W (.slice a0 len0 cap0) r ∧ FitL r ∧ r.length * 24 ≤ 140737488351232 := by
    obtain ⟨fuel, hf⟩ := h0
    have hf' : DataW.trod enc Try.prog W 0 (fun _ => true) true fuel 52 [.slice a0 len0 cap0] = some (d0, p0) := by simpa [Value.cells] using hf
    obtain ⟨r, hr, hd⟩ := open_lists Try.underlying52 Try.underlying30 cells30 Try.underlying35 (by kernel_rfl) cells35 Try.underlying4 Try.underlying9 Try.underlying9 hf'
    rcases hd with ⟨_, rfl⟩ | ⟨es, sp, hd, hln, hes⟩
    · exact ⟨[], hr, fun c hc => by simp at hc, by simp⟩
    · simp only at hd
      rw [hd] at hsz
      obtain ⟨h1, h2⟩ := sized_lists hsz (j := 0) (t := 52) (e := 30) rfl rfl hln hes Try.underlying52 Try.underlying30 bytes30 Try.underlying35 bytes35
      exact ⟨r, hr, h1, h2⟩
  obtain ⟨a1, rfl, rfl, rfl, w1⟩ := open_int Try.underlying3 (hval 1 3 v1 rfl rfl) h1
  obtain ⟨a2, rfl, rfl, rfl, w2⟩ := open_int Try.underlying3 (hval 2 3 v2 rfl rfl) h2
  obtain ⟨a3, rfl, rfl, rfl, w3⟩ := open_int Try.underlying3 (hval 3 3 v3 rfl rfl) h3
  clear hA0 hval0
  refine (runKeeps_walk _ z0 a1 a2 a3 W w0 g0 b0 w1 w2 w3).mono fun e W' ⟨he, bel⟩ => ?_
  subst he
  exact ⟨_, rfl, _, _, _, [], _, [], hW', trodAll_mk1 (shut_bool Try.underlying4 _), (trodAll_cons_mk (Below.trod laidOut (by kernel_rfl) (of_decide_eq_true (by kernel_rfl)) k0 bel lt0) (trodAll_cons_mk (shut_int Try.underlying3 w1) (trodAll_cons_mk (shut_int Try.underlying3 w2) (trodAll_cons_mk (shut_int Try.underlying3 w3) trodAll_mk0)))), rfl, bel.frame _, fun h => by cases h⟩

theorem over : Rows.runKeepsRow.holds Try.pinned (OpenSpec.ofChange Rows.runKeepsSpec) :=
  OpenClaim.holds_of_wide 7 Try.f7 rfl rfl rfl rfl rfl rfl rfl ⟨rfl, rfl, rfl, rfl, rfl⟩ rfl rfl rfl rfl rfl (by kernel_rfl) Try.func7 (by kernel_rfl)
    (of_decide_eq_true (by kernel_rfl)) (by unfold Func.isWrapper; first | (rw [if_pos (by decide +kernel)]; kernel_rfl) | (rw [if_neg (by decide +kernel)]; exact ⟨rfl, rfl⟩))
    (fun os started H enc _ => lifted os started H enc)
end runKeepsFrame

/-- The statement. -/
theorem runKeeps_holds : Rows.RunKeepsSaid := runKeepsFrame.over
#print axioms runKeeps_holds
end Go.Proofs.Ythchcnflflafeaa
