/- Texts of one layer, one behind the other. -/
import Derived.Test.YthmecljkackmbaaGreatGK4
import Derived.Test.YthmecljkackmbaaGreatProg
import Derived.Test.YthmecljkackmbaaGreatGK7
import Derived.Test.YthmecljkackmbaaGreatGFr
import Derived.Test.YthmecljkackmbaaGreatRows
import Derived.ProofKit
import Derived.OpenShut
import Derived.ShutString
import Derived.ChangeOld
import Derived.Below
import Derived.SizedLaws
/- The steps of a region of StoreFold's. -/
namespace Go.Proofs.YthmecljkackmbaaGreat
open Go.RowKit
set_option linter.unusedVariables false

theorem wzd_new : Array.replicate 8 false = lst 8 0 := by kernel_rfl

theorem wzd_size : (regOf 34 Tryz.f6).size = 8 := by kernel_rfl

theorem wzd_t0_0 : Region.free .any (regOf 34 Tryz.f6) (lst 8 0) 0 = true ∧ (Region.ready .any (regOf 34 Tryz.f6) (lst 8 0)).contains 0 = true ∧ (lst 8 0).setIfInBounds 0 true = lst 8 1 := ⟨by kernel_rfl, by kernel_rfl, by kernel_rfl⟩

theorem wzd_t1_1 : Region.free .any (regOf 34 Tryz.f6) (lst 8 1) 1 = true ∧ (Region.ready .any (regOf 34 Tryz.f6) (lst 8 1)).contains 1 = true ∧ (lst 8 1).setIfInBounds 1 true = lst 8 3 := ⟨by kernel_rfl, by kernel_rfl, by kernel_rfl⟩

theorem wzd_t3_2 : Region.free .any (regOf 34 Tryz.f6) (lst 8 3) 2 = true ∧ (Region.ready .any (regOf 34 Tryz.f6) (lst 8 3)).contains 2 = true ∧ (lst 8 3).setIfInBounds 2 true = lst 8 7 := ⟨by kernel_rfl, by kernel_rfl, by kernel_rfl⟩

theorem wzd_t7_3 : Region.free .any (regOf 34 Tryz.f6) (lst 8 7) 3 = true ∧ (Region.ready .any (regOf 34 Tryz.f6) (lst 8 7)).contains 3 = true ∧ (lst 8 7).setIfInBounds 3 true = lst 8 15 := ⟨by kernel_rfl, by kernel_rfl, by kernel_rfl⟩

theorem wzd_t15_5 : Region.free .any (regOf 34 Tryz.f6) (lst 8 15) 5 = true ∧ (Region.ready .any (regOf 34 Tryz.f6) (lst 8 15)).contains 5 = true ∧ (lst 8 15).setIfInBounds 5 true = lst 8 47 := ⟨by kernel_rfl, by kernel_rfl, by kernel_rfl⟩

theorem wzd_r47 : Region.ready .any (regOf 34 Tryz.f6) (lst 8 47) = [4] ∧ (lst 8 47).setIfInBounds 4 true = lst 8 63 := ⟨by kernel_rfl, by kernel_rfl⟩

theorem wzd_r63 : Region.ready .any (regOf 34 Tryz.f6) (lst 8 63) = [6] ∧ (lst 8 63).setIfInBounds 6 true = lst 8 127 := ⟨by kernel_rfl, by kernel_rfl⟩

theorem wzd_t127_7 : Region.free .any (regOf 34 Tryz.f6) (lst 8 127) 7 = true ∧ (Region.ready .any (regOf 34 Tryz.f6) (lst 8 127)).contains 7 = true ∧ (lst 8 127).setIfInBounds 7 true = lst 8 255 := ⟨by kernel_rfl, by kernel_rfl, by kernel_rfl⟩

theorem wzd_end : Region.ready .any (regOf 34 Tryz.f6) (lst 8 255) = [] := by kernel_rfl

end Go.Proofs.YthmecljkackmbaaGreat

/- StoreFold: flushing never changes what a store reads: it is always all commits put together. -/
namespace Go.Proofs.YthmecljkackmbaaGreat
open Go.RowKit Go.Maps Go.Shelf
open Bm (Ov)
set_option linter.unusedVariables false
attribute [local go_sem] Oper.semAt_some

theorem Sn.outT {w wr w' : World} {ps p q bt : Nat} {F : Nat → Prop} {s : Sto.Ss} (h : Sn w wr ps p q F s) (ho : Out (fun g => g = bt) wr w') (hf : ¬ F bt) (hb : w.heap.size ≤ bt) : Sn w w' ps p q F s :=
  ⟨h.sw.out ho fun g hg e => hf (e ▸ hg), h.fb, h.bel.trans (ho.below (fun g hg => by omega) h.bel.size)⟩

theorem tb_outF {w w' : World} {tp bt : Nat} {F : Nat → Prop} {t : List Ov} (h : Tb tp bt w t) (ho : Out F w w') (h1 : ¬ F tp ∧ ¬ F bt) : Tb tp bt w' t := h.agree (ho.block tp h.plt h1.1) (ho.block bt h.blt h1.2)

theorem nt_step {W : World} {tp bt : Nat} {F F' : Nat → Prop} {t : List Ov} (h : ¬ F tp ∧ ¬ F bt) (hn : ∀ g, F' g → F g ∨ W.heap.size ≤ g) (ht : Tb tp bt W t) : ¬ F' tp ∧ ¬ F' bt := by
  refine ⟨fun e => ?_, fun e => ?_⟩
  · rcases hn tp e with e | e
    · exact h.1 e
    · have := ht.plt; omega
  · rcases hn bt e with e | e
    · exact h.2 e
    · have := ht.blt; omega

theorem app_few {la : List Cm.Cv} (h : ∀ c ∈ la, c.l.length ≤ 8) : (Rl.tab la).length ≤ la.length * 8 := by
  have h1 := Tm.app_len (Rl.ops la) []
  have h2 := Rl.ops_len (l := la) (n := 8) h
  unfold Rl.tab
  simp only [List.length_nil, Nat.zero_add] at h1
  omega

set_option maxRecDepth 100000 in
set_option maxHeartbeats 32000000 in
theorem storeFold_walk (v : Value) (r : List Rw) (vf : Value) (zs : List Int) (vk : Value) (ks : List ByteArray) (w : World) (h : IsLL w v r) (hf : FitL r) (hr : r.length * 24 ≤ 140737488351232) (hz : Is .i64 w vf zs) (hz8 : zs.length * 8 ≤ 140737488351232) (hks : IsS w vk ks) (hfk : FitS ks) (hlk : ks.length * 16 ≤ 140737488351232) :
    Calls Tryz.prog 6 #[v, vf, vk] w fun e w' => e = .returned (.bool true) ∧ Below w.heap.size w w' := by
  have HQ := hide h
  have HFQ := hide hf
  have HZ := hide hz
  have HK := hide hks
  have HFK := hide hfk
  obtain ⟨qa, qc, hvl, _, _⟩ := h.1.shape
  obtain ⟨za, zc, hvz, _, _⟩ := hz.shape
  obtain ⟨ka, kc, hvk, _, _⟩ := hks.shape
  subst hvl hvz hvk
  clear h hf hz hks hfk
  refine (callsIn_wide (n := 6)).1 ?_
  refine callsIn_of_wp_marks Tryz.func6 rfl trivial ?_ rfl
  refine wpIn_wide.2 (calm_wp ?_)
  simp only [Tryz.ntmps6, List.size_toArray, List.length_cons, List.length_nil, Nat.reduceAdd, Nat.reduceSub, Array.replicate_succ, Array.replicate_zero, List.push_toArray, List.append_toArray, List.nil_append, List.cons_append]
  go_wp2_with fail
  refine (slives_any w).mono ?_
  rintro E w1 ⟨rfl, b1⟩
  have B1 := hide b1
  clear b1
  by_cases hn0 : (40 : Int) < r.length
  · go_wp2
    refine ⟨.bool true, ?_, rfl, B1.out⟩
    simp [results, Tryz.results6, go_sem]
  by_cases hm0 : (40 : Int) < ks.length
  · go_wp2
    refine ⟨.bool true, ?_, rfl, B1.out⟩
    simp [results, Tryz.results6, go_sem]
  have hll : r.length ≤ 40 := by omega
  have HQ1 := hide (HQ.out.below B1.out)
  have HZ1 := hide (HZ.out.below B1.out)
  have HK1 := hide (HK.out.below B1.out)
  have HM := hide (smade_any w1 (.slice none 0 0) [] ⟨RowC.nil _, fun c hc => by simp at hc⟩ (fun c hc => by simp at hc) (by simp))
  clear HQ HZ HK
  go_wp2_with fail
  refine HM.out.mono ?_
  rintro E w2 (⟨h0, _⟩ | ⟨_, ps, rfl, p, q, F2, N2⟩)
  · exact absurd rfl h0
  have N2 := hide N2
  clear HM
  go_wp2_with fail
  refine (tnew_any w2).mono ?_
  rintro E w3 ⟨rfl, T3, b3⟩
  have N3 := hide (N2.out.below b3)
  have FT : Hid (¬ F2 (w2.heap.size + 1) ∧ ¬ F2 w2.heap.size) := hide ⟨fun e => by have := N2.out.sw.lt _ e; omega, fun e => by have := N2.out.sw.lt _ e; omega⟩
  have PT : Hid (w1.heap.size ≤ w2.heap.size) := hide N2.out.bel.size
  obtain ⟨tp, hpt⟩ : ∃ x, w2.heap.size + 1 = x := ⟨_, rfl⟩
  obtain ⟨bt, hbt⟩ : ∃ x, w2.heap.size = x := ⟨_, rfl⟩
  rw [hpt] at T3 FT ⊢
  rw [hbt] at T3 FT PT
  have HPT : Hid (w1.heap.size ≤ tp) := hide (by have := PT.out; omega)
  have T3 := hide T3
  clear N2 b3 hpt hbt
  go_wp2_with fail
  go_loopw [10] (fun iv wr => ∃ (j : Nat) (F : Nat → Prop) (s : Sto.Ss) (la : List Cm.Cv), j ≤ r.length ∧ iv = .int .i64 j ∧ Hid (Sn w1 wr ps p q F s) ∧ Hid (Ag s la) ∧ Hid (Big (52236 * j) (818 * j) s.r.d) ∧ Hid (la.length = j) ∧ Hid (Tb tp bt wr (Rl.tab la)) ∧ Hid (¬ F tp ∧ ¬ F bt) ∧ Hid (∀ c ∈ la, c.l.length ≤ 8 ∧ ∀ o ∈ c.l, o.c = 0)) (fun iv _ => r.length - (intOf iv).toNat)
  case atStart => exact ⟨0, F2, _, [], by omega, rfl, N3, hide Ag.new, hide big_new, hide rfl, T3, FT, hide (fun c hc => by simp at hc)⟩
  case round =>
    obtain ⟨j, F, s, la, hj, rfl, NR, AR, BR, LR, TR, NF, CR⟩ := hrel
    clear N3 T3 FT
    by_cases hlt : j < r.length
    · obtain ⟨qb, qo, qk, hvx, _, _, hqb, hcell⟩ := (HQ1.out.below NR.out.bel).full (by omega)
      simp only [Value.slice.injEq, true_and] at hvx
      obtain ⟨rfl, rfl⟩ := hvx
      obtain ⟨⟨av, al⟩, ha⟩ : ∃ a, r[j]? = some a := ⟨r[j], by rw [List.getElem?_eq_getElem]⟩
      have d0 := hcell j _ ha
      have hm := List.mem_of_getElem? ha
      have io1 := HQ1.out.2 _ hm
      have fo := HFQ.out _ hm
      obtain ⟨ao, ak, hao, _, _⟩ := io1.shape
      simp only at d0 io1 fo hao
      have hlt' : (j : Int) < r.length := by omega
      have hj0 : (0 : Int) ≤ (j : Int) := by omega
      have hw1 : IntKind.i64.wrap ((j : Int) + 1) = (j : Int) + 1 := wrap_i64_small _ (by omega) (by omega)
      have HIO := hide (And.intro io1 fo)
      have hqw : qb < w1.heap.size := by
        obtain ⟨b', o', k', hv', _, _, hb', _⟩ := HQ1.out.full (by omega)
        simp only [Value.slice.injEq, Option.some.injEq, Addr.mk.injEq] at hv'
        omega
      have D0 : Hid (∀ W, Below w1.heap.size w1 W → W.cell? ⟨qb, qo + j, none⟩ = some av) := hide fun W hW => by
        have e1 := NR.out.bel.cell (p := ⟨qb, qo + j, none⟩) hqw
        rw [hW.cell (p := ⟨qb, qo + j, none⟩) hqw, ← e1]
        exact d0
      subst hao
      clear hcell ha hm io1 fo
      by_cases h8 : (8 : Int) < al.length
      · have BE := hide (B1.out.trans (NR.out.bel.mono B1.out.size))
        go_wp2
        refine ⟨.bool true, ?_, rfl, BE.out⟩
        simp [results, Tryz.results6, go_sem]
      have hal : al.length ≤ 8 := by omega
      obtain ⟨sl1, sl2⟩ := AR.out.small
      have hl40 : al.length * 40 ≤ 140737488351232 := by omega
      have h64 : In64 1 ∧ In64 ((j : Int) + 1) := ⟨⟨by omega, by omega⟩, ⟨by omega, by omega⟩⟩
      have HAP := hide (sapply_any ps p q F wr s ⟨1, (j : Int) + 1, .slice ao al.length ak, al⟩ NR.out.sw (HIO.out.1.below NR.out.bel) HIO.out.2 h64 hl40 (fun hp b hb hf => by
        have h1 := NR.out.fb b hf
        obtain ⟨g', off', cap', hv', _, _, hg', _⟩ := HIO.out.1.full hp
        simp only [Value.slice.injEq] at hv'
        obtain ⟨rfl, _⟩ := hv'
        simp [Value.ownBlock] at hb
        omega) (by omega))
      unfold cmv at HAP
      obtain ⟨c, hc⟩ : ∃ c : Cm.Cv, (⟨1, (j : Int) + 1, .slice ao al.length ak, al⟩ : Cw).c = c := ⟨_, rfl⟩
      rw [hc] at HAP
      simp only at HAP
      have hcl : c.l = al := by rw [← hc]; rfl
      obtain ⟨ae, hae⟩ : ∃ x, (Sto.apl s c).1 = x := ⟨_, rfl⟩
      rw [hae] at HAP
      have HAE := hide hae
      have HCL := hide hcl
      have HCC : Hid (ae = 0 → Cm.chk c.e c.n c.l = 0) := hide fun e => by
        have h1 := (AR.out.apl c (hae.trans e) (by have := LR.out; omega)).ok
        have h2 : (Sto.apl s c).2 = ⟨s.r, s.l ++ [c]⟩ := by
          unfold Sto.apl at hae ⊢
          split at hae
          · rename_i h3
            rw [e] at hae
            exact absurd hae h3
          · rename_i h3
            rw [if_neg h3]
        rw [h2] at h1
        exact (Sto.good_all h1.rest c (by simp)).1
      clear h64 hl40 hc hae hcl sl1 sl2
      go_wp2_with fail
      refine HAP.out.mono ?_
      rintro E wd ⟨rfl, SD⟩
      obtain ⟨FD, ND, OD, nD⟩ := NR.out.step SD
      by_cases he0 : ae = 0
      · have hch := HCC.out he0
        have AD := AR.out.apl c (HAE.out.trans he0) (by have := LR.out; omega)
        have TD := tb_outF TR.out OD NF.out
        have NFD := hide (nt_step NF.out nD TR.out)
        have c8 : c.l.length ≤ 8 ∧ ∀ o ∈ c.l, o.c = 0 := ⟨by rw [HCL.out]; exact hal, (Bm.chkL_zero (Cm.chk_zero hch).2.2.2.2).2.2⟩
        obtain ⟨ta1, ta2⟩ := tab_aft (l := la) hch
        have htf := app_few fun x hx => (CR.out x hx).1
        have HTA := hide (tapply_any tp bt wd (Rl.tab la) (.slice ao al.length ak) c.l TD (by rw [HCL.out]; exact HIO.out.1.below ND.bel) (by rw [HCL.out]; exact HIO.out.2) (by have := LR.out; have := c8.1; omega))
        rw [ta1, ta2] at HTA
        have CN : Hid (∀ x ∈ la ++ [c], x.l.length ≤ 8 ∧ ∀ o ∈ x.l, o.c = 0) := hide fun x hx => by
          rcases List.mem_append.1 hx with hx | hx
          · exact CR.out x hx
          · rw [List.mem_singleton.1 hx]
            exact c8
        have LN : Hid ((la ++ [c]).length = j + 1) := hide (by rw [List.length_append, LR.out]; rfl)
        have ZN : Hid (Big (52236 * j) (818 * j) (Sto.apl s c).2.r.d) := hide (by rw [apl_r]; exact BR.out)
        have dd := D0.out wd ND.bel
        have ND := hide ND
        have AD := hide AD
        generalize (Sto.apl s c).2 = s7 at *
        generalize la ++ [c] = la7 at *
        subst he0
        clear SD OD nD TD TR NR AR HAP hch c8 ta1 ta2 htf NF CR
        go_wp2_with fail
        refine HTA.out.mono ?_
        rintro E we ⟨rfl, TE, OE⟩
        have NE := hide (ND.out.outT OE NFD.out.2 PT.out)
        have TE := hide TE
        clear OE ND HTA dd
        by_cases hfl : j < zs.length
        · have hfl' : (j : Int) < zs.length := by omega
          obtain ⟨zb, zo, zk, hzx, _, _, hzb, hzc⟩ := (HZ1.out.below NE.out.bel).full (by omega)
          simp only [Value.slice.injEq, true_and] at hzx
          obtain ⟨rfl, rfl⟩ := hzx
          have dz := hzc j hfl
          have hi := range_i64 HZ1.out.1 j
          rw [List.getD_eq_getElem?_getD] at dz
          obtain ⟨y, hy⟩ : ∃ x, zs[j]?.getD 0 = x := ⟨_, rfl⟩
          rw [hy] at dz hi
          obtain ⟨sl1, sl2⟩ := AD.out.small
          have HF := hide (sflush_any ps p q FD we s7 y NE.out.sw (rbig_of ZN.out (by omega) (by omega)) ⟨hi.1, by omega⟩ (by omega))
          obtain ⟨A8, e8⟩ := AD.out.flu y
          have Z8 : Hid (Big (52236 * (j + 1)) (818 * (j + 1)) (Sto.flu s7 y).2.r.d) := hide ((big_sflu ZN.out).mono (by omega) (by omega))
          have A8 := hide A8
          obtain ⟨fe, hfe⟩ : ∃ x, (Sto.flu s7 y).1 = x := ⟨_, rfl⟩
          rw [hfe] at HF e8
          generalize (Sto.flu s7 y).2 = s8 at *
          clear hzc hy hi sl1 sl2 hfe
          go_wp2_with fail
          refine HF.out.mono ?_
          rintro E wf ⟨rfl, S8⟩
          obtain ⟨F8, N8, O8, n8⟩ := NE.out.step S8
          have T8 := hide (tb_outF TE.out O8 NFD.out)
          have NF8 := hide (nt_step NFD.out n8 TE.out)
          have HEN := hide (sEnd_any ps p q F8 wf s8 N8.sw)
          rw [A8.out.fin, LN.out] at HEN
          have N8 := hide N8
          clear S8 O8 n8 NE TE HF dz
          rcases e8 with rfl | rfl
          all_goals
            go_wp2_with fail
            refine HEN.out.mono ?_
            rintro E wg ⟨rfl, bg⟩
            have N9 := hide (N8.out.below bg)
            have T9 := hide (T8.out.below bg)
            clear HEN N8 T8 bg
            go_wp2
            go_roundw
            case rel => exact ⟨j + 1, F8, s8, la7, by omega, by go_num, N9, A8, Z8, LN, T9, NF8, CN⟩
            case measure => simp [intOf]; omega
        · have hfl' : ¬ (j : Int) < zs.length := by omega
          have Z8 : Hid (Big (52236 * (j + 1)) (818 * (j + 1)) s7.r.d) := hide (ZN.out.mono (by omega) (by omega))
          have HEN := hide (sEnd_any ps p q FD we s7 NE.out.sw)
          rw [AD.out.fin, LN.out] at HEN
          go_wp2_with fail
          refine HEN.out.mono ?_
          rintro E wg ⟨rfl, bg⟩
          have N9 := hide (NE.out.below bg)
          have T9 := hide (TE.out.below bg)
          clear HEN NE TE bg
          go_wp2
          go_roundw
          case rel => exact ⟨j + 1, FD, s7, la7, by omega, by go_num, N9, AD, Z8, LN, T9, NFD, CN⟩
          case measure => simp [intOf]; omega
      · have hne : (ae != 0) = true := by simpa using he0
        have BE := hide (B1.out.trans (ND.bel.mono B1.out.size))
        clear SD ND OD nD HAP
        go_wp2
        refine ⟨.bool true, ?_, rfl, BE.out⟩
        simp [results, Tryz.results6, go_sem]
    · obtain rfl : j = r.length := by omega
      obtain ⟨wo, rfl⟩ : ∃ x, x = wr := ⟨wr, rfl⟩
      have hlt' : ¬ ((r.length : Nat) : Int) < r.length := by omega
      obtain ⟨sl1, sl2⟩ := AR.out.small
      have htf := app_few fun x hx => (CR.out x hx).1
      rw [LR.out] at htf
      obtain ⟨t, ht⟩ : ∃ t, Rl.tab la = t := ⟨_, rfl⟩
      have hfold : Sto.fold s = t := by rw [AR.out.fold, ← ht]; rfl
      have hft : FitO t := by
        rw [← ht]
        refine fit_c fun o ho => ?_
        rcases Tm.mem_app _ o Rl.up_nil ho with e | e
        · simp at e
        · obtain ⟨c, hc, ho⟩ := List.mem_flatMap.1 e
          exact (CR.out c hc).2 o ho
      rw [ht] at TR htf
      have HFO := hide hfold
      have HFT := hide hft
      have hsm1 : s.l.length ≤ 10000 := by omega
      have hsm2 : s.r.l.length ≤ 800 := by omega
      clear ht hfold hft sl1 sl2 AR BR LR CR
      obtain ⟨m, hmm⟩ : ∃ m, Tm.live t = m := ⟨_, rfl⟩
      have hmL : m.length ≤ 320 := by
        rw [← hmm]
        have h1 : (Tm.live t).length ≤ t.length := List.length_filter_le _ _
        omega
      have HP : Hid (∀ x : Nx m.length, (pt m x).p = true) := hide (by subst hmm; exact live_p t)
      have HMM := hide hmm
      obtain ⟨W2, hW2, sz2, b2, B2⟩ := blk_step wo #[.slice none 0 0] 53
      have HALL := hide (tlive_of (.pointer (some ⟨tp, 0, none⟩)) W2 t (tops_any tp bt W2 t (TR.out.below b2) HFT.out (by omega)))
      have HB2 := hide B2
      have Hb02 := hide b2
      clear B2 b2
      go_wp2_with fail
      refine HALL.out.mono ?_
      rintro E W3 ⟨B, rfl, sq, b3⟩
      have sz3 : wo.heap.size + 1 ≤ W3.heap.size := by have := b3.size; omega
      have HSEQ := hide (lvs_seq 5 (by omega) B W2.heap.size t W3 sq (by omega))
      have SQL := hide sq.lt
      have HO3 := hide ((b3.block wo.heap.size (by omega)).trans HB2.out)
      have Hb3 := hide (Hb02.out.trans (b3.mono (by omega)))
      clear sq b3 hW2 HALL
      have hob : wo.heap.size < W3.heap.size := by omega
      have HKN : Hid (∀ W W', Out (fun g => g = wo.heap.size) W3 W → Out (fun g => g = wo.heap.size) W3 W' → Kn (SeqTB B W3) W W') := hide fun W W' h1 h2 g hg => by
        obtain ⟨q1, q2⟩ := SQL.out g hg
        have hne : ¬ g = wo.heap.size := by omega
        rw [h1.block g q2 hne, h2.block g q2 hne]
      rw [hmm] at HSEQ
      clear hmm
      go_wp2_with fail
      refine (wpIn_wide (n := 6)).1 ?_
      apply wpIn_rangeFunc_ownF rfl (by omega) (gf := 89) (lb := #[.pointer (some ⟨B, 0, none⟩)]) rfl trivial (enters_of Tryz.func89 (by kernel_rfl) rfl) (encs := fun x : Nx m.length => #[.string (pt m x).k, .string (pt m x).v]) (Kp := Kn (SeqTB B W3)) (S := fun xs => xs = upn m.length m.length) (Sp := fun pre => ∃ k, k ≤ m.length ∧ pre = upn m.length k) (N := m.length) (w0 := W3) HSEQ.out Kn.trans (kn_b (fun g hg => (SQL.out g hg).2)) (Below.refl _ _) (fun _ => rfl)
        (fun pre W => RI wo.heap.size W3 (pts m pre) W)
        (fun c pre W => False)
        (fun s X Y row hs hg hr => hs.grown hob hg hr)
        (fun c s X Y row hs hg hr => hs)
        ⟨.slice none 0 0, HO3.out, OwnO.nil _ _ _, Out.refl _ _⟩
      case hassign =>
        intro l0 x W K hK
        gi_wp2
        exact hK
      case hbody =>
        rintro l0 pre x W ⟨v, h1, h2, h3⟩ hlt0
        have hlen : (pts m pre).length = pre.length := pts_len m pre
        obtain ⟨ao, cap, hv, _, _⟩ := h2.is.shape
        rw [hlen] at hv
        have hW3 := h3.size
        have c1 := blk_cell h1 0 rfl
        have hsn := pts_snoc m pre x
        have hp := HP.out x
        obtain ⟨o, ho⟩ : ∃ o, pt m x = o := ⟨_, rfl⟩
        rw [ho] at hsn hp ⊢
        obtain ⟨V, hV, szV, bV, ownV⟩ := ops_step 81 W #[.bool true, .string o.k, .string o.v] 1 [o] rfl (by simp [ocells, ocell, hp]) (by simp [maxLen])
        have own2 := h2.below bV
        have cV := (ownV.is)
        have hcells : ∀ j u, (ocells [o])[j]? = some u → V.cell? ((⟨W.heap.size, 0, none⟩ : Addr).add j) = some u := by
          rcases cV with ⟨h, _⟩ | ⟨ad, cp, h, _, _, hc⟩
          · cases h
          · cases h
            exact hc
        have hb40 : ((pts m pre).length + [o].length) * 40 ≤ 140737488355328 := by rw [hlen]; simp; omega
        have hzV : W3.heap.size ≤ V.heap.size := by omega
        have HFIN : Hid (∀ v' w', OwnO 81 W3.heap.size w' v' (pts m pre ++ [o]) → Below W3.heap.size V w' → V.grownBy w' v.ownBlock → (w'.cell? ⟨wo.heap.size, 0, none⟩ = some v ∧ w'.frozen? ⟨wo.heap.size, 0, none⟩ = false) ∧ KeepsOthers W (w'.setCell ⟨wo.heap.size, 0, none⟩ v') ∧ Kn (SeqTB B W3) W (w'.setCell ⟨wo.heap.size, 0, none⟩ v') ∧ RI wo.heap.size W3 (pts m (pre ++ [x])) (w'.setCell ⟨wo.heap.size, 0, none⟩ v')) := hide fun v' w' ho' hb' hg' => by
          obtain ⟨r1, r2⟩ := RI.app hob hW3 h1 h3 bV ho' hb'
          have hO2 : Out (fun g => g = wo.heap.size) W3 (w'.setCell ⟨wo.heap.size, 0, none⟩ v') := by obtain ⟨_, _, _, h⟩ := r1; exact h
          refine ⟨⟨blk_cell r2 0 rfl, blk_froz r2 0⟩, ?_, HKN.out _ _ h3 hO2, by rw [hsn]; exact r1⟩
          have k1 : KeepsOthers W V := ⟨bV.size, fun k o hk _ => (bV.block k (blk_lt hk)).trans hk⟩
          have k2 : KeepsOthers V w' := grown_ko hg' fun g hg => by obtain ⟨cs, fr, h⟩ := own2.cel hg; exact ⟨cs, _, fr, h⟩
          exact (k1.trans k2).trans (KeepsOthers.setCell _ _ _)
        have hinf := Tryz.info81
        have HV := hide hv
        rw [hv] at c1 own2
        clear h2 h3 h1 hsn hlen bV ownV cV hv hp ho
        gi_wp2_with (gi_at_builtin; refine wpListIn_append_ops rfl (.tmp 102) (.tmp 106) 53 rfl 81 W3.heap.size Tryz.underlying53 hinf _ (pts m pre) rfl own2 ⟨W.heap.size, 0, none⟩ [o] 1 rfl hcells hb40 hzV ?_)
        intro v' w' ho' hb' hg'
        obtain ⟨ao2, cap2, hsh2, _, _⟩ := ho'.is.shape
        obtain ⟨L2, hL2⟩ : ∃ L2, (pts m pre ++ [o]).length = L2 := ⟨_, rfl⟩
        rw [hL2] at hsh2
        clear hL2
        subst hsh2
        have HH := hide (HFIN.out _ w' ho' hb' (by rw [HV.out]; exact hg'))
        have cz := HH.out.1.1
        have fz := HH.out.1.2
        rw [HV.out] at cz
        clear ho' hb' hg' c1 own2 hcells
        gi_wp2
        exact HH.out.2
      case hdone =>
        rintro D xs W hD rfl ⟨v, h1, h2, h3⟩ hKD
        rw [pts_all] at h2
        have hb4 : Below wo.heap.size wo W := Hb3.out.trans (h3.below (fun g hg => by omega) (by omega))
        have HWO : Hid (w1.heap.size ≤ wo.heap.size) := hide NR.out.bel.size
        have N4 := hide (NR.out.below hb4)
        have T4 := hide (TR.out.below hb4)
        have V4 : Hid (OwnO 81 wo.heap.size W v m ∧ W.heap[wo.heap.size]? = some (.cells #[v] 53 (0, 0)) ∧ W.heap[D]? = some (.deferred (some []))) := hide ⟨h2.rebase (by omega), h1, hKD⟩
        have hDD : wo.heap.size < D := by omega
        obtain ⟨ga, gk, hgv, _, _⟩ := h2.is.shape
        subst hgv
        clear h1 h2 h3 hKD hb4 NR TR HSEQ SQL HO3 Hb3 HB2 Hb02 HKN
        go_wp2
        go_loopw [15] (fun iv wx => ∃ (k : Nat), k ≤ ks.length ∧ iv = .int .i64 k ∧ Hid (Below W.heap.size W wx)) (fun iv _ => ks.length - (intOf iv).toNat)
        case atStart => exact ⟨0, by omega, rfl, hide (Below.refl _ _)⟩
        case round =>
          obtain ⟨k, hk, rfl, BX⟩ := hrel
          have NX := hide (N4.out.below BX.out)
          have TX := hide (T4.out.below BX.out)
          by_cases hkl : k < ks.length
          · obtain ⟨kb, ko, kk, hkx, _, _, hkb, hkc⟩ := IsS.full (show IsS wr _ ks from HK1.out.below NX.out.bel) (by omega)
            simp only [Value.slice.injEq, true_and] at hkx
            obtain ⟨rfl, rfl⟩ := hkx
            obtain ⟨key, hkey⟩ : ∃ a, ks[k]? = some a := ⟨ks[k], by rw [List.getElem?_eq_getElem]⟩
            have dk := hkc k key hkey
            have hks := HFK.out key (List.mem_of_getElem? hkey)
            have hkl' : (k : Int) < ks.length := by omega
            have hk0 : (0 : Int) ≤ (k : Int) := by omega
            have HG1 := hide (sget_any ps p q F wr s key NX.out.sw (by omega))
            rw [HFO.out] at HG1
            clear hkc hkey
            go_wp2_with fail
            refine HG1.out.mono ?_
            rintro E wy ⟨rfl, by1⟩
            have dk2 := (by1.cell (p := ⟨kb, ko + k, none⟩) (World.block_lt_of_cell? _ _ dk)).trans dk
            have HG2 := hide (tget_any tp bt wy t key (TX.out.below by1) (by omega))
            have BY := hide (BX.out.trans (by1.mono BX.out.size))
            clear HG1 by1 dk
            go_wp2_with fail
            refine HG2.out.mono ?_
            rintro E wz ⟨rfl, bz⟩
            have BZ := hide (BY.out.trans (bz.mono BY.out.size))
            clear HG2 bz dk2
            generalize gv t key = ga1 at *
            generalize gp t key = gb1 at *
            go_wp2
            go_roundw
            case rel => exact ⟨k + 1, by omega, by go_num, BZ⟩
            case measure => simp [intOf]; omega
          · obtain rfl : k = ks.length := by omega
            have hkl' : ¬ ((ks.length : Nat) : Int) < ks.length := by omega
            obtain ⟨O4, H4, D4⟩ := V4.out
            have O5 := hide (O4.below BX.out)
            have H5 := (BX.out.block wo.heap.size (blk_lt H4)).trans H4
            have D5 := hide ((BX.out.block D (blk_lt D4)).trans D4)
            have x0 := blk_cell H5 0 rfl
            simp only [List.getElem_toArray, List.getElem_cons_zero] at x0
            have hwL : IntKind.i64.wrap ((m.length : Int) + 1) = (m.length : Int) + 1 := wrap_i64_small _ (by omega) (by omega)
            have SX : Hid (∀ X, Below wr.heap.size wr X → X.cell? ⟨wo.heap.size, 0, none⟩ = some (.slice ga m.length gk)) := hide fun X hX => (hX.cell (p := ⟨wo.heap.size, 0, none⟩) (blk_lt H5)).trans x0
            have HAL : Hid (∀ X, Below wr.heap.size wr X → Calls Tryz.prog 31 #[.pointer (some ⟨ps, 0, none⟩), .int .i64 ((m.length : Int) + 1)] X fun E w' => ∃ v, E = .returned v ∧ OwnO 81 X.heap.size w' v m ∧ Below X.heap.size X w') := hide fun X hX => by
              have := (NX.out.below hX).all (m.length + 1) hsm1 hsm2
              rw [HFO.out, HMM.out, List.take_of_length_le (by omega)] at this
              exact this
            have hl1 : m.length ≤ 140737488355328 := by omega
            clear O4 H4 D4 H5 x0
            go_wp2_with fail
            obtain ⟨W0, hW0⟩ : ∃ x, wr.drew = x := ⟨_, rfl⟩
            have bel0 : Below wr.heap.size wr W0 := by rw [← hW0]; exact (Below.refl _ _).drew
            refine region_any (ops := (regOf 34 Tryz.f6)) (S := fun X => X.cell? ⟨wo.heap.size, 0, none⟩ = some (.slice ga m.length gk)) (by kernel_rfl) wzd_size ?_
            rw [wzd_new, hW0]
            refine any_take (v := ?_) wzd_t0_0 (by kernel_rfl) (fun _ _ _ _ _ h => h) (SX.out _ bel0) rfl rfl (by rfl) ?_ ?_
            rotate_left 1
            · intro w hS
              (try dsimp only at hS)
              go_simp
              all_goals with_reducible rfl
            simp only [Act.put, List.setIfInBounds_toArray, List.set_cons_zero, List.set_cons_succ]
            refine any_take (v := ?_) wzd_t1_1 (by kernel_rfl) (fun _ _ _ _ _ h => h) (SX.out _ bel0) rfl rfl (by rfl) ?_ ?_
            rotate_left 1
            · intro w hS
              (try dsimp only at hS)
              go_simp
              all_goals with_reducible rfl
            simp only [Act.put, List.setIfInBounds_toArray, List.set_cons_zero, List.set_cons_succ]
            refine any_take (v := ?_) wzd_t3_2 (by kernel_rfl) (fun _ _ _ _ _ h => h) (SX.out _ bel0) rfl rfl (by rfl) ?_ ?_
            rotate_left 1
            · intro w hS
              (try dsimp only at hS)
              go_simp
              all_goals with_reducible rfl
            simp only [Act.put, List.setIfInBounds_toArray, List.set_cons_zero, List.set_cons_succ]
            refine any_take (v := ?_) wzd_t7_3 (by kernel_rfl) (fun _ _ _ _ _ h => h) (SX.out _ bel0) rfl rfl (by rfl) ?_ ?_
            rotate_left 1
            · intro w hS
              (try dsimp only at hS)
              go_simp
              all_goals with_reducible rfl
            simp only [Act.put, List.setIfInBounds_toArray, List.set_cons_zero, List.set_cons_succ]
            refine any_take (v := ?_) wzd_t15_5 (by kernel_rfl) (fun _ _ _ _ _ h => h) (SX.out _ bel0) rfl rfl (by rfl) ?_ ?_
            rotate_left 1
            · intro w hS
              (try dsimp only at hS)
              go_simp
              all_goals with_reducible rfl
            simp only [Act.put, List.setIfInBounds_toArray, List.set_cons_zero, List.set_cons_succ]
            refine any_one wzd_r47 ?_
            refine any_op rfl (by rfl) (fun K hK => ?_)
            go_simp
            refine (HAL.out _ bel0).mono ?_
            rintro E W1 ⟨v1, rfl, o1, st1⟩
            have bel1 := bel0.trans (st1.mono bel0.size)
            obtain ⟨xa, xn, xk, hx⟩ : ∃ a n k, v1 = .slice a n k := by
              obtain ⟨a1, k1, h1, _⟩ := o1.is.shape
              exact ⟨a1, _, k1, h1⟩
            subst hx
            have HSM := hide (sameO_any _ (.slice ga m.length gk) m m W1 o1.is (O5.out.below bel1).is hl1 hl1)
            rw [Bm.sameL_self] at HSM
            clear o1 st1
            go_wp2_with fail
            refine hK.out _ _ (SX.out _ bel1) ?_
            clear hK K
            try simp only [Act.put, List.setIfInBounds_toArray, List.set_cons_zero, List.set_cons_succ]
            refine any_one wzd_r63 ?_
            refine any_op rfl (by rfl) (fun K hK => ?_)
            go_simp
            refine HSM.out.mono ?_
            rintro E W2 ⟨rfl, st2⟩
            have bel2 := bel1.trans (st2.mono bel1.size)
            go_wp2_with fail
            refine hK.out _ _ (SX.out _ bel2) ?_
            clear hK K
            try simp only [Act.put, List.setIfInBounds_toArray, List.set_cons_zero, List.set_cons_succ]
            refine any_take (v := ?_) wzd_t127_7 (by kernel_rfl) (fun _ _ _ _ _ h => h) (SX.out _ bel2) rfl rfl (by rfl) ?_ ?_
            rotate_left 1
            · intro w hS
              (try dsimp only at hS)
              go_simp
              all_goals with_reducible rfl
            simp only [Act.put, List.setIfInBounds_toArray, List.set_cons_zero, List.set_cons_succ]
            refine any_done wzd_end ?_
            have D6 := (bel2.block D (blk_lt D5.out)).trans D5.out
            have B6 := B1.out.trans ((NX.out.below bel2).bel.mono B1.out.size)
            have hDw : w.heap.size ≤ D := by
              have h1 := B1.out.size
              have h2 := N4.out.bel.size
              have h3 := HWO.out
              omega
            go_wp2
            refine ⟨by simp, .inl ⟨_, _, rfl, run_takeDeferred D6, ?_⟩⟩
            refine ⟨.bool true, ?_, rfl, ?_⟩
            · simp [results, Tryz.results6, go_sem]
            · exact B6.grown (grownBy_putObj' W2 D (.deferred none)) B6.size fun k e => by cases e; exact hDw
      case hstop =>
        rintro D c pre W hD _ hf hK
        exact hf.elim

end Go.Proofs.YthmecljkackmbaaGreat

/- Proved: StoreFold -/
namespace Go.Proofs.YthmecljkackmbaaGreat
open Go.ChangeShapes Go.WideShapes Go.ChangeAt Go.RowKit
open Go.ChangeMaps (open_string shut_string)
set_option linter.unusedVariables false

namespace storeFoldFrame
theorem own : ownKnob Tryz.prog.godebug = none := by kernel_rfl
theorem laidOut : laidOutB Tryz.prog = true := by kernel_rfl
theorem bytes3 : Tryz.prog.bytesOf 3 = 8 := by kernel_rfl
theorem cells53 : Tryz.prog.cellsOf 53 = 1 := by kernel_rfl
theorem bytes53 : Tryz.prog.bytesOf 53 = 24 := by kernel_rfl
theorem cells81 : Tryz.prog.cellsOf 81 = 3 := by kernel_rfl
theorem bytes81 : Tryz.prog.bytesOf 81 = 40 := by kernel_rfl
theorem cells9 : Tryz.prog.cellsOf 9 = 1 := by kernel_rfl
theorem bytes9 : Tryz.prog.bytesOf 9 = 16 := by kernel_rfl

set_option maxRecDepth 100000 in
theorem lifted (os : Os) (started : os.Started) (H : Type) (enc : TypeId × Value → H) :
    ReturnsInHanded {} Tryz.checked os 6 .any (Rows.storeFoldSpec.pre6 enc Tryz.prog Tryz.f6 Rows.storeFoldRow.domain false) (Rows.storeFoldSpec.post enc Tryz.prog Tryz.f6 false true false false) := by
  refine returnsInHanded_of_change_sized (C := Tryz.checked) own started (by kernel_rfl) Tryz.func6
    (ChangeSpec.witness6 (enc := enc) (C := Tryz.checked) false ⟨#[], #[.slice none 0 0, .slice none 0 0, .slice none 0 0], []⟩ 8 (by kernel_rfl) (by kernel_rfl) (by kernel_rfl) (by kernel_rfl)) ?_
  intro W base args ds gs before hval0 hW hcnd hsz0 _
  have hsz : (DataW.weightsEach Tryz.prog (Tryz.f6.params.toList ++ Rows.storeFoldSpec.plain.varTypes Tryz.prog) (ds ++ gs)).all (· ≤ reachBytes) = true := hsz0
  clear hsz0
  have hval : ∀ (j : Nat) t v, Tryz.f6.params[j]? = some t → args[j]? = some v → Value.okWide Tryz.prog W .any base t v := hval0
  have hW' := hW
  obtain ⟨p, q, hA0, hV, rfl, hfz, hnd⟩ := hW
  have hA : DataW.TrodAll enc Tryz.prog W 0 (fun _ => true) true Tryz.f6.params.toList args.toList ds p := hA0
  rw [Tryz.params6] at hA hval hsz
  obtain ⟨v0, vs0, d0, ds0, p0, q0, hargs, rfl, rfl, h0, r0⟩ := trodAll_cons hA
  obtain ⟨v1, vs1, d1, ds1, p1, q1, rfl, rfl, rfl, h1, r1⟩ := trodAll_cons r0
  obtain ⟨v2, vs2, d2, ds2, p2, q2, rfl, rfl, rfl, h2, r2⟩ := trodAll_cons r1
  obtain ⟨rfl, rfl, rfl⟩ := trodAll_nil r2
  obtain rfl : args = #[v0, v1, v2] := by cases args; simp_all
  obtain ⟨rfl, rfl⟩ := trodVars_none hV
  obtain ⟨a0, len0, cap0, rfl⟩ := okWide_slice Tryz.underlying73 (hval 0 73 v0 rfl rfl)
  have k0 := h0
  have lt0 : ∀ x ∈ p0, x.block < W.heap.size := by obtain ⟨m, hm⟩ := k0; exact DataW.trod_lt m _ _ _ hm
  obtain ⟨z0, w0, g0, b0⟩ : ∃ r, IsLL W (.slice a0 len0 cap0) r ∧ FitL r ∧ r.length * 24 ≤ 140737488351232 := by
    obtain ⟨fuel, hf⟩ := h0
    have hf' : DataW.trod enc Tryz.prog W 0 (fun _ => true) true fuel 73 [.slice a0 len0 cap0] = some (d0, p0) := by simpa [Value.cells] using hf
    obtain ⟨r, hr, hd⟩ := open_lists Tryz.underlying73 Tryz.underlying53 cells53 Tryz.underlying81 (by kernel_rfl) cells81 Tryz.underlying4 Tryz.underlying9 Tryz.underlying9 hf'
    rcases hd with ⟨_, rfl⟩ | ⟨es, sp, hd, hln, hes⟩
    · exact ⟨[], hr, fun c hc => by simp at hc, by simp⟩
    · simp only at hd
      rw [hd] at hsz
      obtain ⟨h1, h2⟩ := sized_lists hsz (j := 0) (t := 73) (e := 53) rfl rfl hln hes Tryz.underlying73 Tryz.underlying53 bytes53 Tryz.underlying81 bytes81
      exact ⟨r, hr, h1, h2⟩
  obtain ⟨a1, len1, cap1, rfl⟩ := okWide_slice Tryz.underlying74 (hval 1 74 v1 rfl rfl)
  have k1 := h1
  have lt1 : ∀ x ∈ p1, x.block < W.heap.size := by obtain ⟨m, hm⟩ := k1; exact DataW.trod_lt m _ _ _ hm
  obtain ⟨z1, w1, b1⟩ : ∃ zs, Is .i64 W (.slice a1 len1 cap1) zs ∧ zs.length * 8 ≤ 140737488351232 := by
    obtain ⟨fuel, hf⟩ := h1
    rcases open_ints Tryz.underlying74 Tryz.underlying3 (by kernel_rfl) hf with ⟨hcs, _⟩ | ⟨x, l, c, zs, hcs, _, hl, hm, hz, hx, hcell, hwz⟩
    · simp [Value.cells] at hcs
      obtain ⟨rfl, rfl, rfl⟩ := hcs
      exact ⟨[], Is.nil _ _, by simp⟩
    · simp [Value.cells] at hcs
      obtain ⟨rfl, rfl, rfl⟩ := hcs
      have hd : d1 = _ := (Prod.mk.inj hx).1
      have hzl : zs.length = cap1 := by simpa using hz
      have hlen : (zs.take len1).length = len1 := by rw [List.length_take]; omega
      refine ⟨zs.take len1, ⟨fun z hz => hwz z (List.mem_of_mem_take hz), .inr ⟨x, cap1, by rw [hlen], by omega, hm, fun j hj => ?_⟩⟩, ?_⟩
      · rw [hlen] at hj
        rw [hcell j (by omega)]
        simp [List.getD, hj]
      · rw [hd] at hsz
        have := sized_slice hsz (j := 1) (t := 74) (e := 3) rfl rfl Tryz.underlying74
        rw [bytes3] at this
        simp only [lits, List.length_map, List.length_take, List.length_drop, reachBytes] at this
        rw [hlen]
        omega
  obtain ⟨a2, len2, cap2, rfl⟩ := okWide_slice Tryz.underlying35 (hval 2 35 v2 rfl rfl)
  have k2 := h2
  have lt2 : ∀ x ∈ p2, x.block < W.heap.size := by obtain ⟨m, hm⟩ := k2; exact DataW.trod_lt m _ _ _ hm
  obtain ⟨z2, w2, g2, b2⟩ : ∃ r, IsS W (.slice a2 len2 cap2) r ∧ FitS r ∧ r.length * 16 ≤ 140737488351232 := by
    obtain ⟨fuel, hf⟩ := h2
    have hf' : DataW.trod enc Tryz.prog W 0 (fun _ => true) true fuel 35 [.slice a2 len2 cap2] = some (d2, p2) := by simpa [Value.cells] using hf
    obtain ⟨r, hr, hd⟩ := open_strs Tryz.underlying35 Tryz.underlying9 cells9 hf'
    rcases hd with ⟨_, rfl⟩ | ⟨es, sp, hd, hln, hes⟩
    · exact ⟨[], hr, fun c hc => by simp at hc, by simp⟩
    · simp only at hd
      rw [hd] at hsz
      obtain ⟨h1, h2⟩ := sized_strs hsz (j := 2) (t := 35) (e := 9) rfl rfl hln hes Tryz.underlying35 Tryz.underlying9 bytes9
      exact ⟨r, hr, h1, h2⟩
  clear hA0 hval0
  refine (storeFold_walk _ z0 _ z1 _ z2 W w0 g0 b0 w1 b1 w2 g2 b2).mono fun e W' ⟨he, bel⟩ => ?_
  subst he
  exact ⟨_, rfl, _, _, _, [], _, [], hW', trodAll_mk1 (shut_bool Tryz.underlying4 _), (trodAll_cons_mk (Below.trod laidOut (by kernel_rfl) (of_decide_eq_true (by kernel_rfl)) k0 bel lt0) (trodAll_cons_mk (Below.trod laidOut (by kernel_rfl) (of_decide_eq_true (by kernel_rfl)) k1 bel lt1) (trodAll_cons_mk (Below.trod laidOut (by kernel_rfl) (of_decide_eq_true (by kernel_rfl)) k2 bel lt2) trodAll_mk0))), rfl, bel.frame _, fun h => by cases h⟩

theorem over : Rows.storeFoldRow.holds Tryz.pinned (OpenSpec.ofChange Rows.storeFoldSpec) :=
  OpenClaim.holds_of_wide 6 Tryz.f6 rfl rfl rfl rfl rfl rfl rfl ⟨rfl, rfl, rfl, rfl, rfl⟩ rfl rfl rfl rfl rfl (by kernel_rfl) Tryz.func6 (by kernel_rfl)
    (of_decide_eq_true (by kernel_rfl)) (by unfold Func.isWrapper; first | (rw [if_pos (by decide +kernel)]; kernel_rfl) | (rw [if_neg (by decide +kernel)]; exact ⟨rfl, rfl⟩))
    (fun os started H enc _ => lifted os started H enc)
end storeFoldFrame

/-- The statement. -/
theorem storeFold_holds : Rows.StoreFoldSaid := storeFoldFrame.over
#print axioms storeFold_holds
end Go.Proofs.YthmecljkackmbaaGreat
