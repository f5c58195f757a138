/- WalKeeps: whatever the disk suffers, the log that was synced is there again. -/
import Derived.Test.YtimmohpnlieefaaVy
import Derived.Deep.CutBlock
namespace Go.Proofs.Ytimmohpnlieefaa
open Go.RowKit
set_option linter.unusedVariables false

theorem lastE_in {l : List Cm.Cv} (h : Cm.Good 0 0 l) : 0 ≤ Cm.lastE 0 l ∧ Cm.lastE 0 l ≤ 1048576 := by
  rcases List.eq_nil_or_concat l with rfl | ⟨r, c, rfl⟩
  · exact ⟨by simp [Cm.lastE], by simp [Cm.lastE]⟩
  · have hk : (r.concat c)[r.length]? = some c := by rw [List.concat_eq_append]; simp
    have h3 := Cm.chk_zero (Cm.good_at _ 0 0 r.length c h hk).1
    rw [List.concat_eq_append, (Cm.last_snoc r c 0 0).1]
    exact ⟨by omega, by omega⟩

theorem smQ_yes {l : List Ac} (h : smQ l = true) : l.length ≤ 60 := by
  unfold smQ at h
  rw [Bool.and_eq_true] at h
  exact of_decide_eq_true h.2

/-- The commit of an act, as it is appended. -/
theorem nxt_ok {w : World} {a : Ac} {ep : Int} {en : Nat} (h : AcOk w a) (hf : FitO a.c.l ∧ a.c.l.length * 40 ≤ 140737488351232) (he : 0 ≤ ep ∧ ep ≤ 1048576) (hn : en ≤ 1048576) : IsO w (nxt a ep en).v (nxt a ep en).l ∧ (In64 (nxt a ep en).e ∧ In64 (nxt a ep en).n) ∧ FitO (nxt a ep en).l ∧ (nxt a ep en).l.length * 40 ≤ 140737488351232 :=
  ⟨h.1, nxt_64 a ep en he hn, hf.1, hf.2⟩

/-- An Append in a script. -/
theorem KI.append {w W : World} {p q : Nat} {F : Nat → Prop} {s : Wl.Ws} {va vs : Value} {ra rs : List Cw} (h : KI w W p q F s va ra vs rs) (c : Cw) (hb : WBig s) (hc : IsO w c.v c.l ∧ (In64 c.e ∧ In64 c.n) ∧ FitO c.l ∧ c.l.length * 40 ≤ 140737488351232) :
    Calls Try.prog 11 #[.pointer (some ⟨p, 0, none⟩), .agg #[.int .i64 c.e, .int .i64 c.n, c.v]] W fun E w' => E = .returned (.int .i64 (Wl.wapp s c.c).1) ∧ Out F W w' ∧ ∃ F', KI w w' p q F' (Wl.wapp s c.c).2 va ra vs rs := by
  have := wappend_any p q F W s c h.ww hb (hc.1.below h.bel) hc.2.2.1 hc.2.1 hc.2.2.2 (fun hl b hb hf => by
    obtain ⟨g, off, cap, hv, _, _, hlt, _⟩ := hc.1.full hl
    rw [hv] at hb
    simp [Value.ownBlock] at hb
    have := h.fb b hf
    omega)
  unfold cmv at this
  refine this.mono ?_
  rintro E w' ⟨rfl, k⟩
  exact ⟨rfl, by obtain ⟨_, _, o, _⟩ := k; exact o, h.step k⟩

theorem KI.synced {w W : World} {p q : Nat} {F : Nat → Prop} {s : Wl.Ws} {va vs : Value} {ra rs : List Cw} (h : KI w W p q F s va ra vs rs) (hb : WBig s) :
    Calls Try.prog 21 #[.pointer (some ⟨p, 0, none⟩)] W fun E w' => E = .returned (.int .i64 (Wl.wsyn s).1) ∧ ∃ F', KI w w' p q F' (Wl.wsyn s).2 va ra vs rs := by
  refine (wsync_any p q F W s h.ww hb).mono ?_
  rintro E w' ⟨rfl, k⟩
  exact ⟨rfl, h.step k⟩

set_option maxRecDepth 20000 in
set_option maxHeartbeats 16000000 in
theorem walKeeps_walk (vl : Value) (l : List Ac) (fu k t : Int) (w : World) (hq : IsQ w vl l) (hfq : FitQ l) (hlq : l.length * 64 ≤ 140737488351232) (hfu : (Lit.int .i64 fu).wf = true) (hk : (Lit.int .i64 k).wf = true) (ht : (Lit.int .i64 t).wf = true) :
    Calls Try.prog 6 #[vl, .int .i64 fu, .int .i64 k, .int .i64 t] w fun e w' => e = .returned (.bool true) ∧ Below w.heap.size w w' := by
  have i1 := range_i64 (zs := [fu]) (by simpa using hfu) 0
  have i2 := range_i64 (zs := [t]) (by simpa using ht) 0
  simp at i1 i2
  have HQ := hide hq
  have HFQ := hide hfq
  obtain ⟨qa, qc, hvl, _, _⟩ := hq.1.shape
  have HS : Hid (∀ W, Below w.heap.size w W → Calls Try.prog 26 #[vl] W fun E w' => E = .returned (.bool (smQ l)) ∧ W = w') := hide fun W hb => qsmall_any vl l W (hq.below hb) (by omega) hfq
  subst hvl
  clear hq hfq hfu hk ht
  go_enter Try.func6, Try.ntmps6
  go_wp2_with fail
  refine (lives_any w).mono ?_
  rintro E w1 ⟨rfl, b1⟩
  have B1 := hide b1
  have HS1 := hide (HS.out w1 b1)
  obtain ⟨sm, hsm⟩ : ∃ x, smQ l = x := ⟨_, rfl⟩
  rw [hsm] at HS1
  clear b1 HS
  go_wp2_with fail
  refine HS1.out.mono ?_
  rintro E w' ⟨rfl, rfl⟩
  cases sm with
  | false =>
    go_wp2
    go_ret
    exact ⟨rfl, B1.out⟩
  | true =>
    by_cases hk0 : k < 0
    · go_wp2
      go_ret
      exact ⟨rfl, B1.out⟩
    by_cases ht0 : t < 0
    · go_wp2
      go_ret
      exact ⟨rfl, B1.out⟩
    have hk1 : 0 ≤ k := by omega
    have ht1 : 0 ≤ t := by omega
    have hll := smQ_yes hsm
    have HQ1 := hide (HQ.out.below B1.out)
    clear HS1 HQ hsm
    go_wp2_with fail
    refine (new_any w1).mono ?_
    rintro E w2 ⟨rfl, K2, b2⟩
    have HO := hide (wnew_any w1 w2 w1.heap.size (Nat.le_refl _) K2 b2)
    clear K2 b2
    go_wp2_with fail
    refine HO.out.mono ?_
    rintro E w3 ⟨p, F3, rfl, W3, g3, b3⟩
    obtain ⟨q, hq⟩ : ∃ q, q = w1.heap.size := ⟨_, rfl⟩
    rw [← hq] at W3
    have K3 : Hid (KI w1 w3 p q F3 ⟨Dm.new, [], false⟩ (.slice none 0 0) [] (.slice none 0 0) []) := hide ⟨W3, g3, OwnR.nil _ _ _, fun g e => by simp [Value.ownBlock] at e, fun c hc => by simp at hc, OwnR.nil _ _ _, fun g e => by simp [Value.ownBlock] at e, fun c hc => by simp at hc, fun c hc => by simp at hc, fun g e => by simp [Value.ownBlock] at e, b3⟩
    have HFU := hide (fun hn => K3.out.fused fu hn rfl)
    rw [← hq]
    clear HO W3 g3 b3 hq
    by_cases hf0 : 0 ≤ fu
    case' pos =>
      have HF1 := hide (HFU.out hf0)
      go_wp2_with fail
      refine HF1.out.mono ?_
      rintro E w4 ⟨rfl, F4, K4⟩
      have KS := hide K4
      have NS : Hid (Wl.Kin ⟨{ Dm.new with has := true, left := fu.toNat }, [], false⟩ [] []) := hide (Wl.kin_new rfl rfl rfl)
      have BS : Hid (Big 0 0 ({ Dm.new with has := true, left := fu.toNat } : Dm.Ds)) := hide ⟨⟨fun f => by simp [Dm.new, Dm.bulk], by simp [Dm.new], by simp [Dm.new]⟩, by simp; omega⟩
      clear K4 HF1 HFU K3
    case' neg =>
      have KS := K3
      have NS : Hid (Wl.Kin ⟨Dm.new, [], false⟩ [] []) := hide (Wl.kin_new rfl rfl rfl)
      have BS : Hid (Big 0 0 Dm.new) := hide big_new
      clear K3 HFU
    all_goals
      go_upto_block 0 with fail
      go_cut [12, 13] from 54 to 97 (fun av sv wx => ∃ (F : Nat → Prop) (s : Wl.Ws) (ra rs : List Cw), Hid (KI w1 wx p q F s av ra sv rs) ∧ Hid (Wl.Kend s.d (cvs ra) (cvs rs)) ∧ Hid (Big 40000 1000 s.d) ∧ ra.length ≤ 60)
      case first =>
        go_wp2_with fail
        go_loopw [12, 13, 14] (fun av sv iv wr => ∃ (j : Nat) (F : Nat → Prop) (s : Wl.Ws) (ra rs : List Cw), j ≤ l.length ∧ iv = .int .i64 j ∧ Hid (KI w1 wr p q F s av ra sv rs) ∧ Hid (Wl.Kin s (cvs ra) (cvs rs)) ∧ Hid (Big (433 * j) (8 * j) s.d) ∧ ra.length ≤ j) (fun _ _ iv _ => l.length - (intOf iv).toNat)
        case atStart => exact ⟨0, _, _, [], [], by omega, rfl, KS, NS, BS, by simp⟩
        case round =>
          obtain ⟨j, F, s, ra, rs, hj, rfl, KR, NR, BR, hra⟩ := hrel
          obtain ⟨aa, ka, hav, _, _⟩ := KR.out.al.row.shape
          obtain ⟨sa9, ks, hsv, _, _⟩ := KR.out.su.row.shape
          subst hav hsv
          clear KS NS BS
          by_cases hlt : j < l.length
          · obtain ⟨qb, qo, qk, hvx, _, _, _, hcell⟩ := (HQ1.out.below KR.out.bel).full (by omega)
            simp only [Value.slice.injEq, true_and] at hvx
            obtain ⟨rfl, rfl⟩ := hvx
            obtain ⟨a, ha⟩ : ∃ a, l[j]? = some a := ⟨l[j], by rw [List.getElem?_eq_getElem]⟩
            obtain ⟨d0, d1, d2, d3, d4, d5⟩ := hcell j a ha
            have AO := hide (HQ1.out.2 a (List.mem_of_getElem? ha))
            have AF := hide (HFQ.out a (List.mem_of_getElem? ha))
            obtain ⟨ao, ak, hao, _, _⟩ := AO.out.1.shape
            have HAO := hide hao
            rw [hao] at d5
            have hlt' : (j : Int) < l.length := by omega
            have hj0 : (0 : Int) ≤ (j : Int) := by omega
            obtain ⟨he0, he1⟩ := lastE_in NR.out.good
            obtain ⟨ep, hep⟩ : ∃ x, Cm.lastE 0 (cvs ra) = x := ⟨_, rfl⟩
            rw [hep] at he0 he1
            have KR2 := KR
            obtain ⟨rl, hrl⟩ : ∃ x, ra.length = x := ⟨_, rfl⟩
            have HRL := hide hrl
            rw [hrl] at hra KR2 ⊢
            have hj60 : j < 60 := by omega
            have HNX := hide (next_any a ep rl wr (AO.out.below KR2.out.bel) ⟨he0, he1⟩ (by omega))
            have nok := nxt_ok (w := w1) (ep := ep) (en := rl) AO.out AF.out ⟨he0, he1⟩ (by omega)
            obtain ⟨cn, hcn⟩ : ∃ c, nxt a ep rl = c := ⟨_, rfl⟩
            have hcv : cn.v = .slice ao a.c.l.length ak := by rw [← hcn]; exact HAO.out
            unfold cmv at HNX
            rw [hcn, HAO.out] at HNX
            rw [hcn] at nok
            have NOK := hide nok
            have HCV := hide hcv
            have WB : Hid (WBig s) := hide (BR.out.mono (by omega) (by omega))
            clear hcell ha hao KR hcn nok hcv
            by_cases h0 : rl = 0
            case' pos =>
              have hep0 : ep = 0 := by rw [← hep, List.eq_nil_of_length_eq_zero (hrl.trans h0)]; rfl
              subst hep0
              subst h0
              clear hrl
              go_wp2_with fail
            case' neg =>
              obtain ⟨gb, go, gk, hvx, _, _, _, hrow⟩ := KR2.out.al.row.full (by omega)
              simp only [Value.slice.injEq] at hvx
              obtain ⟨rfl, hzz, rfl⟩ := hvx
              obtain ⟨y, hy⟩ : ∃ y, rl = y + 1 := ⟨rl - 1, by omega⟩
              obtain ⟨c, hcy⟩ : ∃ c, ra[y]? = some c := ⟨ra[y]'(by omega), by rw [List.getElem?_eq_getElem]⟩
              obtain ⟨x0, _, _⟩ := hrow y c hcy
              have hec : c.e = ep := by
                rw [← hep]
                exact (last_at (k := y) (c := c.c) (by unfold cvs; rw [List.getElem?_map, hcy]; rfl) (by rw [cvs_length]; omega) 0).symm
              rw [hec] at x0
              have hwy : IntKind.i64.wrap ((rl : Int) - 1) = (y : Int) := by rw [wrap_i64_small _ (by omega) (by omega)]; omega
              have hy1 : (y : Int) < (rl : Int) := by omega
              have hy0 : (0 : Int) < (rl : Int) := by omega
              clear hrow hcy hec h0 hy hrl hzz
              go_wp2_with fail
            all_goals
              refine HNX.out.mono ?_
              rintro E wa ⟨rfl, ba⟩
              obtain ⟨wb, hwb, hwb2, szb, belb, bB, x5, x6, x7⟩ := new_step wa 32 (.int .i64 0) (.int .i64 0) (.slice none 0 0) (.int .i64 cn.e) (.int .i64 cn.n) (.slice ao a.c.l.length ak)
              have KB := hide ((KR2.out.below ba).below belb)
              have HAP := hide (KB.out.append cn WB.out NOK.out)
              rw [HCV.out] at HAP
              have sza := ba.size
              have hltF := hide KR2.out.ww.lt
              have HBB := hide bB
              have K3 := Wl.kin_app NR.out cn.c
              have BW := hide (big_wapp (c := cn.c) BR.out)
              clear HNX ba belb bB d0 d1 d2 d3 d4 d5
              go_wp2_with fail
              refine HAP.out.mono ?_
              rintro E wc ⟨rfl, oc, Fc, KC⟩
              have hBc := (oc.block wa.heap.size (by omega) (fun hf => by have := hltF.out _ hf; omega)).trans HBB.out
              have y5 : wc.cell? ⟨wa.heap.size, 0, none⟩ = some (.int .i64 cn.e) := blk_cell hBc 0 rfl
              have y6 : wc.cell? ⟨wa.heap.size, 1, none⟩ = some (.int .i64 cn.n) := blk_cell hBc 1 rfl
              have y7 : wc.cell? ⟨wa.heap.size, 2, none⟩ = some (.slice ao a.c.l.length ak) := blk_cell hBc 2 rfl
              have hrl6 := HRL.out
              obtain ⟨V, hV, X⟩ := KC.app (c := cn) (by omega) NOK.out
              rw [HCV.out] at hV
              rw [hrl6] at X
              have hcat : cvs (ra ++ [cn]) = cvs ra ++ [cn.c] := by unfold cvs; rw [List.map_append]; rfl
              have HCAT := hide hcat
              clear HAP KB oc hBc x5 x6 x7 hrl6 hcat
              rcases K3 with ⟨e0, N1⟩ | ⟨e6, _, D1⟩ | ⟨n0, n6, es⟩
              · rw [e0]
                have NN := hide N1
                have hl1 : (ra ++ [cn]).length ≤ j + 1 := by rw [List.length_append, HRL.out, List.length_singleton]; omega
                clear e0 N1 KC
                go_wp2_with (at_builtin; refine wpList_append_at rfl (.tmp 89) (.tmp 91) 34 rfl _ _ rfl rfl X.out ?_)
                intro v8 w8 K8 a8 k8 hE8
                subst hE8
                have H8 := hide K8
                clear X K8
                go_wp2
                go_roundw
                case rel => exact ⟨j + 1, _, _, ra ++ [cn], rs, by omega, by go_num, H8, by rw [HCAT.out]; exact NN, hide (BW.out.mono (by omega) (by omega)), hl1⟩
                case measure => simp [intOf]; omega
              · rw [e6]
                have DD := hide D1
                have hl1 : (ra ++ [cn]).length ≤ 60 := by rw [List.length_append, HRL.out, List.length_singleton]; omega
                clear e6 D1 KC
                go_wp2_with (at_builtin; refine wpList_append_at rfl (.tmp 83) (.tmp 85) 34 rfl _ _ rfl rfl X.out ?_)
                intro v8 w8 K8 a8 k8 hE8
                subst hE8
                have H8 := hide K8
                clear X K8
                go_wp2_with fail
                go_meet
                case rel => exact ⟨_, _, ra ++ [cn], rs, H8, by rw [HCAT.out]; exact DD, hide (BW.out.mono (by omega) (by omega)), hl1⟩
              · obtain ⟨ee, hee⟩ : ∃ x, (Wl.wapp s cn.c).1 = x := ⟨_, rfl⟩
                rw [hee] at n0 n6 ⊢
                rw [es] at KC
                have hb6 : (ee == 6) = false := by simp [n6]
                have hb0 : (ee == 0) = false := by simp [n0]
                have HSY := hide (KC.synced WB.out)
                have K4 := Wl.kin_syn NR.out
                have BY := hide (big_wsyn BR.out)
                clear KC X hV y5 y6 y7 hee es
                go_wp2_with fail
                refine HSY.out.mono ?_
                rintro E wd ⟨rfl, Fd, KD⟩
                rcases K4 with ⟨e0, N1⟩ | ⟨e6, _, D1⟩
                · rw [e0]
                  have HCC := hide (copyCs_any _ ra wd KD.alc.1 KD.alc.2 (by rw [HRL.out]; omega))
                  have HD := hide KD
                  have NN := hide N1
                  clear e0 N1 KD HSY
                  go_wp2_with fail
                  refine HCC.out.mono ?_
                  rintro E we ⟨v9, r9, rfl, o9, c9, p9, b9⟩
                  have H9 := hide (HD.out.sure b9 o9 p9)
                  obtain ⟨a9, k9, hv9, _, _⟩ := o9.row.shape
                  have C9 := hide c9
                  subst hv9
                  clear HCC o9 c9 p9 b9 HD
                  go_wp2
                  go_roundw
                  case rel => exact ⟨j + 1, _, _, ra, r9, by omega, by go_num, (by first | exact H9 | (have := H9; rwa [HRL.out] at this)), by rw [C9.out]; exact NN, hide (BY.out.mono (by omega) (by omega)), by rw [HRL.out]; omega⟩
                  case measure => simp [intOf]; omega
                · rw [e6]
                  have HD := hide KD
                  have DD := hide D1
                  clear e6 D1 KD HSY
                  go_wp2_with fail
                  go_meet
                  case rel => exact ⟨_, _, ra, rs, HD, DD, hide (BY.out.mono (by omega) (by omega)), by rw [HRL.out]; omega⟩
          · obtain rfl : j = l.length := by omega
            have hlt' : ¬ (l.length : Int) < l.length := by omega
            go_wp2_with fail
            go_meet
            case rel => exact ⟨_, _, ra, rs, KR, hide NR.out.fin, hide (BR.out.mono (by omega) (by omega)), by omega⟩
      case rest =>
        obtain ⟨F, s, ra, rs, KE, DE, BE, hra⟩ := hcut
        obtain ⟨aa, ka, hav, _, _⟩ := KE.out.al.row.shape
        obtain ⟨sa9, ks, hsv, _, _⟩ := KE.out.su.row.shape
        subst hav hsv
        obtain ⟨Fk, hPk⟩ := KE.out.pk
        have HON := hide (on_any q Fk _ _ hPk)
        clear hPk KS NS BS
        by_cases hon : s.d.on = true
        case' pos =>
          have HPU := hide (KE.out.pulled hon)
          rw [hon] at HON
          go_wp2_with fail
          refine HON.out.mono ?_
          rintro E wx ⟨rfl, rfl⟩
          go_wp2_with fail
          refine HPU.out.mono ?_
          rintro E wp ⟨rfl, Fp, KP⟩
          have HST := hide (KP.started k t hk1 ht1 i2.2 rfl (big_dark BE.out))
          have EK : Hid (Dm.kept (Dm.dark s.d) k.toNat t.toNat 0 = Dm.kept s.d k.toNat t.toNat 0) := hide rfl
          clear KP KE HPU HON BE hon
          go_wp2_with fail
        case' neg =>
          have hon' : s.d.on = false := by simpa using hon
          rw [hon'] at HON
          have HST := hide (KE.out.started k t hk1 ht1 i2.2 hon' BE.out)
          have EK : Hid (Dm.kept s.d k.toNat t.toNat 0 = Dm.kept s.d k.toNat t.toNat 0) := hide rfl
          go_wp2_with fail
          refine HON.out.mono ?_
          rintro E wp ⟨rfl, rfl⟩
          clear KE HON BE hon hon'
          go_wp2_with fail
        all_goals
          refine HST.out.mono ?_
          rintro E wz ⟨rfl, Fz, st, KZ, SZ⟩
          have HOP := hide (KZ.opened (SZ.big.mono (by decide) (by decide)) SZ.on SZ.has)
          have SD := hide SZ
          clear HST KZ SZ
          go_wp2_with fail
          refine HOP.out.mono ?_
          rintro E wo ⟨p2, F2, m, rfl, K2, _, LG⟩
          obtain ⟨s1, s2, s3, s4⟩ := std_open SD.out LG.out
          have hmm := Wl.kend_start DE.out (m := m) (k := k.toNat) (t := t.toNat) (by have h1 := LG.out; rw [SD.out.hld] at h1; first | exact h1 | (rw [EK.out] at h1; exact h1))
          have hml : m.length ≤ 60 := by have := hmm.2.length_le; rw [cvs_length] at this; omega
          have hgm : Cm.Good 0 0 m := LG.out.1
          have HFR := hide (wfrom_any p2 q F2 wo _ 1 61 K2.ww)
          rw [show frl (Wl.Ws.mk (opD st m) m false).l 1 61 = m from frl_all (by show m.length ≤ 61; omega)] at HFR
          have HK2 := hide K2
          have S4 := hide (show (opD st m).on = true ∧ (opD st m).has = false ∧ Wl.hld (opD st m) = Wl.lgb m ∧ Big 100000000 800000 (opD st m) from ⟨s1, s2, s3, s4⟩)
          have HMM := hide hmm
          have GM := hide hgm
          clear HOP K2 LG s1 s2 s3 s4 hmm hgm SD EK
          go_wp2_with fail
          refine HFR.out.mono ?_
          rintro E wt ⟨vt, rt, rfl, ot, ct, et, _, bt⟩
          have HOP := hide ((HK2.out.below bt).opened S4.out.2.2.2 S4.out.1 S4.out.2.1)
          have OT := hide ot
          have CT := hide ct
          have ET := hide et
          have LT2 := hide HK2.out.ww.lt
          obtain ⟨ta, tk9, hvt, _, _⟩ := ot.row.shape
          subst hvt
          have htl : rt.length ≤ 60 := by rw [← cvs_length, et]; exact hml
          clear HFR ot ct et bt
          go_wp2_with fail
          refine HOP.out.mono ?_
          rintro E wy ⟨p3, F3, m2, rfl, K3, o3, LG⟩
          have hm2 : m2 = m := by
            have h1 := LG.out
            rw [S4.out.2.2.1] at h1
            exact Wl.lg_one h1 (Wl.lg_self GM.out)
          subst hm2
          obtain ⟨ot2, ct2⟩ := told_out OT.out CT.out o3 LT2.out
          obtain ⟨it, ft⟩ := isc_of ot2 ct2 ET.out GM.out
          have BA := hide (begins_yes _ _ ra rt wy K3.alc.1 it K3.alc.2 ft (by omega) (by rw [ET.out]; exact HMM.out.2))
          have HK3 := hide K3
          have IT := hide it
          have FT := hide ft
          clear HOP K3 o3 LG ot2 ct2 it ft OT CT LT2
          go_wp2_with fail
          refine BA.out.mono ?_
          rintro E w5 ⟨rfl, b5⟩
          have K5 := HK3.out.below b5
          have SU := K5.suc DE.out.gs
          have BB := hide (begins_yes _ _ rt rs w5 (IT.out.below b5) SU.1 FT.out SU.2 (by omega) (by rw [ET.out]; exact HMM.out.1))
          have HK5 := hide K5
          have IT5 := hide (IT.out.below b5)
          clear BA HK3 IT b5 K5 SU
          go_wp2_with fail
          refine BB.out.mono ?_
          rintro E w6 ⟨rfl, b6⟩
          have K6 := HK5.out.below b6
          have HFR := hide (wfrom_any p3 q F3 w6 _ 1 61 K6.ww)
          rw [show frl (Wl.Ws.mk (opD (opD st m2) m2) m2 false).l 1 61 = m2 from frl_all (by show m2.length ≤ 61; omega)] at HFR
          have IT6 := hide (IT5.out.below b6)
          have BL6 := hide K6.bel
          clear BB HK5 IT5 b6 K6
          go_wp2_with fail
          refine HFR.out.mono ?_
          rintro E w7 ⟨v7, r7, rfl, o7, c7, e7, _, b7⟩
          obtain ⟨i7, f7⟩ := isc_of o7 c7 e7 GM.out
          have h7l : r7.length ≤ 60 := by rw [← cvs_length, e7]; exact hml
          have SC := hide (sameCs_any v7 _ r7 rt w7 i7 (IT6.out.below b7) f7 FT.out (by omega) (by omega))
          rw [e7, ET.out, sameV_self] at SC
          obtain ⟨a7, k7, hv7, _, _⟩ := o7.row.shape
          have BL7 := hide (BL6.out.trans (b7.mono BL6.out.size))
          subst hv7
          clear HFR o7 c7 e7 b7 i7 f7 IT6 BL6
          go_wp2_with fail
          refine SC.out.mono ?_
          rintro E w8 ⟨rfl, b8⟩
          go_wp2
          go_ret
          exact ⟨rfl, B1.out.trans ((BL7.out.trans (b8.mono BL7.out.size)).mono B1.out.size)⟩

end Go.Proofs.Ytimmohpnlieefaa
