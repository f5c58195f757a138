/- WalCuts: a log holds what was appended to it and not cut off again. -/
import Derived.Test.YtimmohpnlieefaaVz
namespace Go.Proofs.Ytimmohpnlieefaa
open Go.RowKit
set_option linter.unusedVariables false

theorem lastE_up {l : List Cm.Cv} (h : Cm.Good 0 0 l) : 0 ≤ Cm.lastE 0 l ∧ Cm.lastE 0 l ≤ 1048576 := by
  rcases List.eq_nil_or_concat l with rfl | ⟨r, c, rfl⟩
  · exact ⟨by simp [Cm.lastE], by simp [Cm.lastE]⟩
  · have hk : (r.concat c)[r.length]? = some c := by rw [List.concat_eq_append]; simp
    have h3 := Cm.chk_zero (Cm.good_at _ 0 0 r.length c h hk).1
    rw [List.concat_eq_append, (Cm.last_snoc r c 0 0).1]
    exact ⟨by omega, by omega⟩

theorem smQ_few {l : List Ac} (h : smQ l = true) : l.length ≤ 60 := by
  unfold smQ at h
  rw [Bool.and_eq_true] at h
  exact of_decide_eq_true h.2

theorem nxt_fine {w : World} {a : Ac} {ep : Int} {en : Nat} (h : AcOk w a) (hf : FitO a.c.l ∧ a.c.l.length * 40 ≤ 140737488351232) (he : 0 ≤ ep ∧ ep ≤ 1048576) (hn : en ≤ 1048576) : IsO w (nxt a ep en).v (nxt a ep en).l ∧ (In64 (nxt a ep en).e ∧ In64 (nxt a ep en).n) ∧ FitO (nxt a ep en).l ∧ (nxt a ep en).l.length * 40 ≤ 140737488351232 :=
  ⟨h.1, nxt_64 a ep en he hn, hf.1, hf.2⟩

theorem fol_none {l : List Cm.Cv} (h : Cm.Good 0 0 l) : Cm.fol 0 0 0 l = (0, 0) := by
  have h1 := (Cm.fol_good l 0 0 0).2 h
  have h2 := Cm.fol_at l 0 0 0 h1
  exact Prod.ext h1 h2

set_option maxRecDepth 20000 in
set_option maxHeartbeats 16000000 in
theorem walCuts_walk (vl : Value) (l : List Ac) (w : World) (hq : IsQ w vl l) (hfq : FitQ l) (hlq : l.length * 64 ≤ 140737488351232) :
    Calls Try.prog 7 #[vl] w fun e w' => e = .returned (.bool true) ∧ Below w.heap.size w w' := by
  have HQ := hide hq
  have HFQ := hide hfq
  obtain ⟨qa, qc, hvl, _, _⟩ := hq.1.shape
  have HS : Hid (∀ W, Below w.heap.size w W → Calls Try.prog 26 #[vl] W fun E w' => E = .returned (.bool (smQ l)) ∧ W = w') := hide fun W hb => qsmall_any vl l W (hq.below hb) (by omega) hfq
  subst hvl
  clear hq hfq
  go_enter Try.func7, Try.ntmps7
  go_wp2_with fail
  refine (lives_any w).mono ?_
  rintro E w1 ⟨rfl, b1⟩
  have B1 := hide b1
  have HS1 := hide (HS.out w1 b1)
  obtain ⟨sm, hsm⟩ : ∃ x, smQ l = x := ⟨_, rfl⟩
  rw [hsm] at HS1
  clear b1 HS
  go_wp2_with fail
  refine HS1.out.mono ?_
  rintro E w' ⟨rfl, rfl⟩
  cases sm with
  | false =>
    go_wp2
    go_ret
    exact ⟨rfl, B1.out⟩
  | true =>
    have hll := smQ_few hsm
    have HQ1 := hide (HQ.out.below B1.out)
    clear HS1 HQ hsm
    go_wp2_with fail
    refine (new_any w1).mono ?_
    rintro E w2 ⟨rfl, K2, b2⟩
    have HO := hide (wnew_any w1 w2 w1.heap.size (Nat.le_refl _) K2 b2)
    clear K2 b2
    go_wp2_with fail
    refine HO.out.mono ?_
    rintro E w3 ⟨p, F3, rfl, W3, g3, b3⟩
    obtain ⟨q, hq⟩ : ∃ q, q = w1.heap.size := ⟨_, rfl⟩
    rw [← hq] at W3
    have KS : Hid (KJ w1 w3 p q F3 ⟨Dm.new, [], false⟩ (.slice none 0 0) []) := hide ⟨W3, g3, OwnR.nil _ _ _, fun g e => by simp [Value.ownBlock] at e, fun c hc => by simp at hc, b3⟩
    have NS : Hid (Cin ⟨Dm.new, [], false⟩ []) := hide ⟨rfl, rfl, rfl, rfl, trivial, rfl⟩
    have BS : Hid (Big 0 0 Dm.new) := hide big_new
    rw [← hq]
    clear HO W3 g3 b3 hq
    go_wp2
    go_loopw [6, 7] (fun av iv wr => ∃ (j : Nat) (F : Nat → Prop) (s : Wl.Ws) (ra : List Cw), j ≤ l.length ∧ iv = .int .i64 j ∧ Hid (KJ w1 wr p q F s av ra) ∧ Hid (Cin s (cvs ra)) ∧ Hid (Big (433 * j) (8 * j) s.d) ∧ ra.length ≤ j) (fun _ iv _ => l.length - (intOf iv).toNat)
    case atStart => exact ⟨0, _, _, [], by omega, rfl, KS, NS, BS, by simp⟩
    case round =>
      obtain ⟨j, F, s, ra, hj, rfl, KR, NR, BR, hra⟩ := hrel
      obtain ⟨aa, ka, hav, hka, _⟩ := KR.out.al.row.shape
      subst hav
      clear KS NS BS
      have WB : Hid (WBig s) := hide (BR.out.mono (by omega) (by omega))
      obtain ⟨rl, hrl⟩ : ∃ x, ra.length = x := ⟨_, rfl⟩
      have HRL := hide hrl
      rw [hrl] at hra hka KR ⊢
      by_cases hlt : j < l.length
      · obtain ⟨qb, qo, qk, hvx, _, _, _, hcell⟩ := (HQ1.out.below KR.out.bel).full (by omega)
        simp only [Value.slice.injEq, true_and] at hvx
        obtain ⟨rfl, rfl⟩ := hvx
        obtain ⟨a, ha⟩ : ∃ a, l[j]? = some a := ⟨l[j], by rw [List.getElem?_eq_getElem]⟩
        obtain ⟨d0, d1, d2, d3, d4, d5⟩ := hcell j a ha
        have AO := hide (HQ1.out.2 a (List.mem_of_getElem? ha))
        have AF := hide (HFQ.out a (List.mem_of_getElem? ha))
        obtain ⟨ao, ak, hao, _, _⟩ := AO.out.1.shape
        have HAO := hide hao
        rw [hao] at d5
        have hlt' : (j : Int) < l.length := by omega
        have hj0 : (0 : Int) ≤ (j : Int) := by omega
        have PK := hide (pickx_any a.k 2 wr (by omega) (by omega) AO.out.2.1.1)
        obtain ⟨pz, hpz⟩ : ∃ x, pk a.k 2 = x := ⟨_, rfl⟩
        rw [hpz] at PK
        clear hcell ha hao hpz
        by_cases hp1 : pz = 1
        · subst hp1
          obtain ⟨hn0, hn1⟩ := pk_lt a.n ((rl : Int) + 1) (by omega)
          have PN := hide (pickx_any a.n ((rl : Int) + 1) wr (by omega) (by omega) AO.out.2.1.2.1)
          obtain ⟨n, hn⟩ : ∃ n : Nat, pk a.n ((rl : Int) + 1) = n := ⟨(pk a.n ((rl : Int) + 1)).toNat, by omega⟩
          rw [hn] at PN hn0 hn1
          have hwr : IntKind.i64.wrap ((rl : Int) + 1) = (rl : Int) + 1 := wrap_i64_small _ (by omega) (by omega)
          have CC := cin_cut NR.out n (by rw [cvs_length, hrl]; omega)
          have HCU := hide (KR.out.cut (n : Int) WB.out (fun _ => by rw [NR.out.hld, NR.out.l]; omega))
          rw [CC.1] at HCU
          have NC := hide CC.2
          have BC := hide (big_wcut (n := (n : Int)) BR.out)
          have hnk : (n : Int) ≤ (ka : Int) := by omega
          have hnr : n ≤ rl := by omega
          clear CC hn hrl
          go_wp2_with fail
          refine PK.out.mono ?_
          rintro E wx ⟨rfl, rfl⟩
          go_wp2_with fail
          refine PN.out.mono ?_
          rintro E wx ⟨rfl, rfl⟩
          clear PK PN
          go_wp2_with fail
          refine HCU.out.mono ?_
          rintro E wc ⟨rfl, Fc, KC⟩
          have hIs := KC.alc
          obtain ⟨vs, hvs, rows⟩ := hIs.1.1.slice_h Try.elemC Try.sizeC n (by have := HRL.out; omega)
          have hvs' : vs = .slice aa n ka := by
            have := hvs wc
            rw [run_slice_h wc 34 aa rl ka Try.elemC .i64 _ (by omega) (by omega), Try.sizeC] at this
            simp only [Result.andThen, sliced] at this
            cases aa <;> simp [Addr.add] at this <;> exact this.symm
          subst hvs'
          have HCC := hide (copyCs_any _ (ra.take n) wc ⟨rows, hIs.1.2.take n⟩ (hIs.2.take n) (by rw [List.length_take]; omega))
          have HKC := hide KC
          clear HCU hIs rows hvs KC d0 d1 d2 d3 d4 d5
          go_wp2_with fail
          refine HCC.out.mono ?_
          rintro E wd ⟨v9, r9, rfl, o9, c9, p9, b9⟩
          have e9 : cvs r9 = (cvs ra).take n := by rw [c9, cvs_take]
          have H9 := hide (HKC.out.copied b9 o9 p9 e9 NC.out.good)
          have hl9 : r9.length ≤ j + 1 := by
            have := congrArg List.length e9
            rw [cvs_length, List.length_take] at this
            omega
          have N9 : Hid (Cin (Wl.wcut s n).2 (cvs r9)) := hide (by rw [e9]; exact NC.out)
          obtain ⟨a9, k9, hv9, _, _⟩ := o9.row.shape
          subst hv9
          clear HCC HKC o9 c9 p9 b9 e9 NC
          go_wp2
          go_roundw
          case rel => exact ⟨j + 1, _, _, r9, by omega, by go_num, H9, N9, hide (BC.out.mono (by omega) (by omega)), hl9⟩
          case measure => simp [intOf]; omega
        · have hpb : (pz == 1) = false := by simp [hp1]
          obtain ⟨he0, he1⟩ := lastE_up NR.out.good
          obtain ⟨ep, hep⟩ : ∃ x, Cm.lastE 0 (cvs ra) = x := ⟨_, rfl⟩
          rw [hep] at he0 he1
          have HNX := hide (next_any a ep rl wr (AO.out.below KR.out.bel) ⟨he0, he1⟩ (by omega))
          have nok := nxt_fine (w := w1) (ep := ep) (en := rl) AO.out AF.out ⟨he0, he1⟩ (by omega)
          obtain ⟨cn, hcn⟩ : ∃ c, nxt a ep rl = c := ⟨_, rfl⟩
          have hcv : cn.v = .slice ao a.c.l.length ak := by rw [← hcn]; exact HAO.out
          unfold cmv at HNX
          rw [hcn, HAO.out] at HNX
          rw [hcn] at nok
          have NOK := hide nok
          have HCV := hide hcv
          clear hcn nok hcv
          by_cases h0 : rl = 0
          case' pos =>
            have hep0 : ep = 0 := by rw [← hep, List.eq_nil_of_length_eq_zero (hrl.trans h0)]; rfl
            subst hep0
            subst h0
            clear hrl
            go_wp2_with fail
            refine PK.out.mono ?_
            rintro E wx ⟨rfl, rfl⟩
            go_wp2_with fail
          case' neg =>
            obtain ⟨gb, go, gk, hvx, _, _, _, hrow⟩ := KR.out.al.row.full (by omega)
            simp only [Value.slice.injEq] at hvx
            obtain ⟨rfl, hzz, rfl⟩ := hvx
            obtain ⟨y, hy⟩ : ∃ y, rl = y + 1 := ⟨rl - 1, by omega⟩
            obtain ⟨c, hcy⟩ : ∃ c, ra[y]? = some c := ⟨ra[y]'(by omega), by rw [List.getElem?_eq_getElem]⟩
            obtain ⟨x0, _, _⟩ := hrow y c hcy
            have hec : c.e = ep := by
              rw [← hep]
              exact (last_at (k := y) (c := c.c) (by unfold cvs; rw [List.getElem?_map, hcy]; rfl) (by rw [cvs_length]; omega) 0).symm
            rw [hec] at x0
            have hwy : IntKind.i64.wrap ((rl : Int) - 1) = (y : Int) := by rw [wrap_i64_small _ (by omega) (by omega)]; omega
            have hy1 : (y : Int) < (rl : Int) := by omega
            have hy0 : (0 : Int) < (rl : Int) := by omega
            clear hrow hcy hec h0 hy hrl hzz
            go_wp2_with fail
            refine PK.out.mono ?_
            rintro E wx ⟨rfl, rfl⟩
            go_wp2_with fail
          all_goals
            refine HNX.out.mono ?_
            rintro E wa ⟨rfl, ba⟩
            obtain ⟨wb, hwb, hwb2, szb, belb, bB, x5, x6, x7⟩ := new_step wa 32 (.int .i64 0) (.int .i64 0) (.slice none 0 0) (.int .i64 cn.e) (.int .i64 cn.n) (.slice ao a.c.l.length ak)
            have KB := hide ((KR.out.below ba).below belb)
            have HAP := hide (KB.out.append cn WB.out NOK.out)
            rw [HCV.out] at HAP
            have sza := ba.size
            have hltF := hide KR.out.ww.lt
            have HBB := hide bB
            have K3 := cin_app NR.out cn.c
            have BW := hide (big_wapp (c := cn.c) BR.out)
            clear HNX ba belb bB d0 d1 d2 d3 d4 d5 PK
            go_wp2_with fail
            refine HAP.out.mono ?_
            rintro E wc ⟨rfl, oc, Fc, KC⟩
            have hBc := (oc.block wa.heap.size (by omega) (fun hf => by have := hltF.out _ hf; omega)).trans HBB.out
            have y5 : wc.cell? ⟨wa.heap.size, 0, none⟩ = some (.int .i64 cn.e) := blk_cell hBc 0 rfl
            have y6 : wc.cell? ⟨wa.heap.size, 1, none⟩ = some (.int .i64 cn.n) := blk_cell hBc 1 rfl
            have y7 : wc.cell? ⟨wa.heap.size, 2, none⟩ = some (.slice ao a.c.l.length ak) := blk_cell hBc 2 rfl
            have hrl6 := HRL.out
            obtain ⟨V, hV, X⟩ := KC.app (c := cn) (by omega) NOK.out
            rw [HCV.out] at hV
            rw [hrl6] at X
            have hcat : cvs (ra ++ [cn]) = cvs ra ++ [cn.c] := by unfold cvs; rw [List.map_append]; rfl
            have HCAT := hide hcat
            clear HAP KB oc hBc x5 x6 x7 hrl6 hcat
            rcases K3 with ⟨e0, N1⟩ | ⟨n0, es⟩
            · rw [e0]
              have NN := hide N1
              have hl1 : (ra ++ [cn]).length ≤ j + 1 := by rw [List.length_append, HRL.out, List.length_singleton]; omega
              clear e0 N1 KC
              go_wp2_with (at_builtin; refine wpList_append_at rfl (.tmp 87) (.tmp 89) 34 rfl _ _ rfl rfl X.out ?_)
              intro v8 w8 K8 a8 k8 hE8
              subst hE8
              have H8 := hide K8
              clear X K8
              go_wp2
              go_roundw
              case rel => exact ⟨j + 1, _, _, ra ++ [cn], by omega, by go_num, H8, by rw [HCAT.out]; exact NN, hide (BW.out.mono (by omega) (by omega)), hl1⟩
              case measure => simp [intOf]; omega
            · obtain ⟨ee, hee⟩ : ∃ x, (Wl.wapp s cn.c).1 = x := ⟨_, rfl⟩
              rw [hee] at n0 ⊢
              rw [es] at KC
              have hb0 : (ee == 0) = false := by simp [n0]
              have H8 := hide KC
              clear KC X hV y5 y6 y7 hee es
              go_wp2
              go_roundw
              case rel => exact ⟨j + 1, _, _, ra, by omega, by go_num, H8, NR, hide (BR.out.mono (by omega) (by omega)), by rw [HRL.out]; omega⟩
              case measure => simp [intOf]; omega
      · obtain rfl : j = l.length := by omega
        have hlt' : ¬ (l.length : Int) < l.length := by omega
        have HB := hide (show Big 60000 2000 s.d from BR.out.mono (by omega) (by omega))
        have HOF := hide (of_any _ ra wr KR.out.alc.1 KR.out.alc.2 (by rw [hrl]; omega))
        rw [fol_none NR.out.good] at HOF
        unfold flv at HOF
        simp only at HOF
        have hral : ra.length ≤ 60 := by omega
        have HLL := hide (show s.l = cvs ra from NR.out.l)
        have q1 := Try.neqF 0 0 0 0
        have q2 := Try.guardF .neq
        clear hrl
        go_wp2_with fail
        refine HOF.out.mono ?_
        rintro E w2 ⟨vS, rfl, oS, b2⟩
        obtain ⟨V, hV, szV, belV, bV⟩ := blk_step w2 #[.int .i64 0, .int .i64 0] 71
        have c0 : V.cell? ⟨w2.heap.size, 0, none⟩ = some (.int .i64 0) := blk_cell bV 0 rfl
        have c1 : V.cell? ⟨w2.heap.size, 1, none⟩ = some (.int .i64 0) := blk_cell bV 1 rfl
        have f0 := blk_froz bV 0
        have f1 := blk_froz bV 1
        have hs0 : V.setCell ⟨w2.heap.size, 0, none⟩ (.int .i64 0) = V := set_same bV rfl
        have hs1 : V.setCell ⟨w2.heap.size, 1, none⟩ (.int .i64 0) = V := set_same bV rfl
        have KV := KR.out.below (b2.trans (belV.mono b2.size))
        obtain ⟨F1, hP1⟩ := KV.pk
        have HRD := hide (dread_any q F1 V s.d 0 hP1 (fun f => Nat.le_trans (HB.out.1.1 f) (by decide)) (Nat.le_trans HB.out.1.2.1 (by decide)))
        rw [(rdB_hld NR.out.on).1, (rdB_hld NR.out.on).2, NR.out.hld] at HRD
        obtain ⟨aS, kS, hvS, _, _⟩ := (OwnG.row oS).shape
        have OS := hide (ownS_below oS belV)
        have hSl : (ofs (cvs ra)).length ≤ 140737488355328 := by
          have := told_len (cvs ra) 0
          rw [cvs_length] at this
          rw [ofs_ok (by rw [fol_none NR.out.good])]
          omega
        have HKV := hide KV
        have HvS := hide hvS
        rw [hvS]
        clear HOF oS b2 belV bV KV hP1 hvS KR
        go_wp2_with fail
        refine HRD.out.mono ?_
        rintro E w3 ⟨vb, rfl, ob, b3⟩
        obtain ⟨ab, kb, hvb, _, _⟩ := ob.is.shape
        subst hvb
        have K3 := hide (HKV.out.below b3)
        have OS3 := hide (ownS_below OS.out b3)
        have e0 := (b3.cell (p := ⟨w2.heap.size, 0, none⟩) (show w2.heap.size < V.heap.size by omega)).trans c0
        have e1 := (b3.cell (p := ⟨w2.heap.size, 1, none⟩) (show w2.heap.size < V.heap.size by omega)).trans c1
        have HEN := hide (wend_any p q F w3 s K3.out.ww)
        rw [HLL.out, cvs_length, HRL.out] at HEN
        have HLN := hide (wlength_any p q F w3 s K3.out.ww)
        rw [HLL.out] at HLN
        obtain ⟨z, hz⟩ : ∃ z, (Wl.lgb (cvs ra)).length = z := ⟨_, rfl⟩
        have HZ := hide hz
        rw [hz] at HLN ⊢
        clear HRD ob b3 HKV OS hz c0 c1
        go_wp2_with fail
        refine HEN.out.mono ?_
        rintro E wx ⟨rfl, rfl⟩
        go_wp2_with fail
        refine HLN.out.mono ?_
        rintro E wx ⟨rfl, m4, rfl⟩
        have K4 := hide (K3.out.below (below_drewN (Below.refl _ _) m4))
        have HST := hide (wstarts_any p q F (w3.drewN m4) s K4.out.ww (by rw [HLL.out, cvs_length]; omega))
        rw [HLL.out] at HST
        have OS4 := hide (ownS_below OS3.out (below_drewN (Below.refl _ _) m4))
        clear HEN HLN K3 OS3 e0 e1
        go_wp2_with fail
        refine HST.out.mono ?_
        rintro E w5 ⟨v5, rfl, o5, b5⟩
        have SS := hide (sameS_yes v5 vS (ofs (cvs ra)) w5 (OwnG.row o5) (OwnG.row (ownS_below OS4.out b5)) hSl)
        rw [HvS.out] at SS
        have K5 := hide (K4.out.below b5)
        obtain ⟨a5, k5, hv5, _⟩ := (OwnG.row o5).shape
        subst hv5
        clear HST o5 b5 K4 OS4
        go_wp2_with fail
        refine SS.out.mono ?_
        rintro E wx ⟨rfl, m6, rfl⟩
        have K6 := hide (K5.out.below (below_drewN (Below.refl _ _) m6))
        have HFR := hide (wfrom_any p q F (w5.drewN m6) s 1 61 K6.out.ww)
        rw [HLL.out, frl_all (by rw [cvs_length]; omega)] at HFR
        clear SS K5
        go_wp2_with fail
        refine HFR.out.mono ?_
        rintro E w7 ⟨v7, r7, rfl, o7, p7, e7, _, b7⟩
        have K7 := hide (K6.out.below b7)
        obtain ⟨i7, f7⟩ := isc_of o7 p7 e7 NR.out.good
        have h7l : r7.length ≤ 60 := by rw [← cvs_length, e7, cvs_length]; exact hral
        have SC := hide (sameCs_any v7 _ r7 ra w7 i7 K7.out.alc.1 f7 K7.out.alc.2 (by omega) (by omega))
        rw [e7, sameV_self] at SC
        obtain ⟨a7, k7, hv7, _, _⟩ := o7.row.shape
        subst hv7
        clear HFR o7 p7 e7 b7 i7 f7 K6
        go_wp2_with fail
        refine SC.out.mono ?_
        rintro E w8 ⟨rfl, b8⟩
        have K8 := hide (K7.out.below b8)
        have CS := cin_syn NR.out
        have HSY := hide (K8.out.synced (HB.out.mono (by decide) (by decide)))
        rw [CS.1] at HSY
        have NC := hide CS.2.1
        have SU := hide CS.2.2
        have B9 := hide (big_wsyn HB.out)
        clear SC b8 K7 CS
        go_wp2_with fail
        refine HSY.out.mono ?_
        rintro E w9 ⟨rfl, F9, K9⟩
        obtain ⟨Fd, hPd⟩ := K9.pk
        have HDU := hide (durable_any q Fd w9 _ 0 hPd (fun f => Nat.le_trans (B9.out.1.1 f) (by decide)))
        rw [show duB (Wl.wsyn s).2.d 0 = Wl.lgb (cvs ra) from by unfold duB; rw [if_neg (by decide)]; exact SU.out] at HDU
        have H9 := hide K9
        clear HSY K9 hPd K8
        go_wp2_with fail
        refine HDU.out.mono ?_
        rintro E wA ⟨vd, rfl, od, bd⟩
        have hzle : (Wl.lgb (cvs ra)).length ≤ 1000000000 := by have := lgb_le NR.out.good; omega
        have HSC := hide (wscan_any vd _ wA od.is hzle)
        obtain ⟨ad, kd, hvd, _, _⟩ := od.is.shape
        subst hvd
        have KA := hide (H9.out.below bd)
        clear HDU od bd H9
        go_wp2_with fail
        refine HSC.out.mono ?_
        rintro E wB ⟨lB, vB, eB, rB, rfl, LB9, _, bB, LG⟩
        have hlB : lB = cvs ra := Wl.lg_one LG.out (Wl.lg_self NR.out.good)
        subst hlB
        have KB := KA.out.below bB
        have HOP := hide (KB.open2 NC.out (B9.out.mono (by decide) (by decide)))
        have HLB := hide LB9
        have LTA := hide KA.out.ww.lt
        obtain ⟨xB, yB, hvB, _, _⟩ := LB9.r.row.row.shape
        have HvB := hide hvB
        rw [hvB, HZ.out]
        clear HSC LB9 bB LG KB KA hvB
        go_wp2_with fail
        refine HOP.out.mono ?_
        rintro E wC ⟨p2, FC, F2, rfl, KC, W2, oC⟩
        have LC := HLB.out.agree fun g hg => oC.block g (HLB.out.lt g hg) fun hf => by
          have h1 := LTA.out g hf
          have h2 := HLB.out.ge g hg
          omega
        have hBl : rB.length ≤ 60 := by have := LC.len; rw [cvs_length] at this; omega
        have SC := hide (sameCs_any vB _ rB ra wC LC.isc KC.alc.1 (fit_good LC.good LC.is).1 KC.alc.2 (by omega) (by omega))
        rw [LC.is, sameV_self, HvB.out] at SC
        have HKC := hide KC
        have HW2 := hide W2
        clear HOP KC W2 oC LC HLB LTA
        go_wp2_with fail
        refine SC.out.mono ?_
        rintro E wD ⟨rfl, bD⟩
        have KD := hide (HKC.out.below bD)
        have WD := hide (HW2.out.below bD)
        have HFR := hide (wfrom_any p2 q F2 wD _ 1 61 WD.out)
        rw [show frl (Wl.Ws.mk (Wl.wsyn s).2.d (cvs ra) false).l 1 61 = cvs ra from frl_all (by show (cvs ra).length ≤ 61; rw [cvs_length]; omega)] at HFR
        clear SC bD HKC HW2
        go_wp2_with fail
        refine HFR.out.mono ?_
        rintro E wE ⟨vE, rE, rfl, oE, pE, eE, _, bE⟩
        have KE := hide (KD.out.below bE)
        obtain ⟨iE, fE⟩ := isc_of oE pE eE NR.out.good
        have hEl : rE.length ≤ 60 := by rw [← cvs_length, eE, cvs_length]; exact hral
        have SC := hide (sameCs_any vE _ rE ra wE iE KE.out.alc.1 fE KE.out.alc.2 (by omega) (by omega))
        rw [eE, sameV_self] at SC
        obtain ⟨aE, kE, hvE, _, _⟩ := oE.row.shape
        subst hvE
        have WE := hide (WD.out.below bE)
        clear HFR oE pE eE bE iE fE KD WD
        go_wp2_with fail
        refine SC.out.mono ?_
        rintro E wF ⟨rfl, bF⟩
        have E1 := hide (wepoch_any p2 q F2 wF _ (WE.out.below bF))
        have E2 : Hid (∀ m, Calls Try.prog 15 #[.pointer (some ⟨p, 0, none⟩)] (wF.drewN m) fun E w' => E = .returned (.int .i64 (Cm.lastE 0 (cvs ra))) ∧ ∃ n, w' = (wF.drewN m).drewN n) := hide fun m => by
          have := wepoch_any p q FC (wF.drewN m) _ ((KE.out.below bF).ww.below (below_drewN (Below.refl _ _) m))
          rw [NC.out.l] at this
          exact this
        simp only at E1
        have BF := hide ((KE.out.below bF).bel)
        generalize Cm.lastE 0 (cvs ra) = ep at *
        clear SC bF KE WE
        go_wp2_with fail
        refine E1.out.mono ?_
        rintro E wx ⟨rfl, m1, rfl⟩
        go_wp2_with fail
        refine (E2.out m1).mono ?_
        rintro E wx ⟨rfl, m2, rfl⟩
        go_wp2
        go_ret
        exact ⟨rfl, B1.out.trans ((below_drewN BF.out _).mono B1.out.size)⟩

end Go.Proofs.Ytimmohpnlieefaa
