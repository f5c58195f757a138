/- Proved: ships may come in any order, and twice: the replica always holds a front part of the log, and gets all of it (TakeAll). For every log, number and list of numbers; no conditions of my own. -/
import Derived.Test.YtfnaeblbodfekaaGV
import Derived.Test.YtfnaeblbodfekaaGW
import Derived.Test.YtfnaeblbodfekaaGX
import Derived.Test.YtfnaeblbodfekaaGY
import Derived.Test.YtfnaeblbodfekaaGZ
import Derived.Test.YtfnaeblbodfekaaGU
import Derived.Deep.CutRange
import Derived.Test.YtfnaeblbodfekaaRows
import Derived.ProofKit
import Derived.OpenShut
import Derived.ShutString
import Derived.ChangeOld
import Derived.Below
import Derived.SizedLaws
/- TakeAll: the walk. -/
namespace Go.Proofs.Ytfnaeblbodfekaa
open Go.RowKit
set_option linter.unusedVariables false

/-- A ship is taken: what comes of it. -/
theorem all_step {l : List Cm.Cv} (h : Cm.Good 0 0 l) (hl : l.length ≤ 40) (k a : Nat) (hk : k ≤ l.length) (ha : a ≤ l.length) :
    ∃ z tt k', Tak.tkE 0 (epo17 l) (l.take k) (Shp.nxt (epo17 l) l a) = z ∧ Tak.tk 0 (epo17 l) (l.take k) (Shp.nxt (epo17 l) l a) = tt ∧ l.take k ++ tt = l.take k' ∧ k ≤ k' ∧ k' ≤ l.length ∧ (a = k → min l.length (k + 1) ≤ k') ∧ (z = 0 ∨ (z = 13 ∧ k < a)) := by
  by_cases hka : a ≤ k
  · obtain ⟨h1, h2⟩ := all_ok h hl k a hk hka
    refine ⟨_, _, _, h1, rfl, h2, ?_, ?_, ?_, .inl rfl⟩ <;> unfold hav <;> omega
  · obtain ⟨h1, h2⟩ := all_gap h hl k a hk ha (by omega)
    exact ⟨_, _, k, h1, h2, by simp, by omega, hk, by omega, .inr ⟨rfl, by omega⟩⟩

set_option maxRecDepth 20000 in
set_option maxHeartbeats 16000000 in
theorem takeAll_w (v : Value) (rs : List Cw) (t : Int) (fv : Value) (fs : List Int) (w : World) (h : IsC w v rs) (hf : FitC rs) (hl : rs.length ≤ 140737488355328) (ht : I64 t) (hfv : Is .i64 w fv fs) (hfi : ∀ x ∈ fs, I64 x) :
    Calls Try.prog 6 #[v, .int .i64 t, fv] w fun E w' => E = .returned (.bool true) ∧ Below w.heap.size w w' := by
  obtain ⟨ao, cap, hvl, _, _⟩ := h.1.shape
  obtain ⟨bo, bcap, hvb, _, _⟩ := hfv.shape
  have HI := hide h
  have HF := hide hf
  have It := hide ht
  have HFV := hide hfv
  have HFI := hide hfi
  rw [hvl] at HI
  rw [hvb] at HFV
  subst hvl hvb
  clear h hf ht hfv hfi
  go_enter Try.func6, Try.ntmps6
  go_wp2_with fail
  refine (lives18_any w).mono ?_
  rintro E w1 ⟨rfl, b1⟩
  have B1 := hide b1
  have SML := hide (small18_any _ rs w1 (HI.out.below b1) hl)
  have FOL := hide (cfol_any 0 0 _ rs w1 (HI.out.below b1) HF.out (by omega))
  have HG := hide (Cm.fol_good (cvs rs) 0 0 0)
  have HZ := hide (Cm.fol_at (cvs rs) 0 0 0)
  unfold flv at FOL
  obtain ⟨fl, hfl⟩ : ∃ f, Cm.fol 0 0 0 (cvs rs) = f := ⟨_, rfl⟩
  rw [hfl] at FOL HG HZ
  obtain ⟨fe, fp⟩ := fl
  simp only at FOL HG HZ
  clear b1 hfl
  go_wp2_with fail
  refine SML.out.mono ?_
  rintro E w2 ⟨⟨bs, rfl, hbs⟩, rfl⟩
  clear SML
  cases bs with
  | false =>
    go_wp2
    go_ret
    exact ⟨rfl, B1.out⟩
  | true =>
  obtain ⟨hs1, hs2⟩ := hbs rfl
  have HS2 := hide hs2
  clear hbs hs2
  go_wp2_with fail
  refine FOL.out.mono ?_
  rintro E w2 ⟨rfl, b2⟩
  have B2 := hide (B1.out.trans (b2.mono B1.out.size))
  have hnq := Try.neqF fe fp 0 0
  have hgd := Try.guardF
  clear b2 FOL
  by_cases hfe : fe = 0
  case neg =>
    have hb : (!((fe == 0) && (fp == 0))) = true := by simp [hfe]
    rw [hb] at hnq
    clear HG HZ
    go_wp2
    go_ret
    exact ⟨rfl, B2.out⟩
  have hfp : fp = 0 := HZ.out hfe
  have GD : Hid (Cm.Good 0 0 (cvs rs)) := hide (HG.out.1 hfe)
  have hb : (!((fe == 0) && (fp == 0))) = false := by simp [hfe, hfp]
  rw [hb] at hnq
  by_cases h60 : 60 < fs.length
  · have h60' : (60 : Int) < fs.length := by omega
    clear HG HZ
    go_wp2
    go_ret
    exact ⟨rfl, B2.out⟩
  have h60' : ¬ (60 : Int) < fs.length := by omega
  obtain ⟨ep, hep⟩ : ∃ ep, epo17 (cvs rs) = ep := ⟨_, rfl⟩
  have HEP := hide hep
  clear HG HZ hb hep
  go_upto_if 32 with fail
  go_cut [7] from 30 to 39 (fun vq wx => vq = .int .i64 ep ∧ w2 = wx)
  case first =>
    by_cases h0 : 0 < rs.length
    · obtain ⟨b, off, cap', hv, _, _, hlt, hcell⟩ := (HI.out.below B2.out).1.full h0
      simp only [Value.slice.injEq, true_and] at hv
      obtain ⟨c, hc⟩ : ∃ c, rs[rs.length - 1]? = some c := ⟨rs[rs.length - 1], by rw [List.getElem?_eq_getElem]⟩
      obtain ⟨d0, _, _⟩ := hcell _ c hc
      have hla := last_row hc (by omega)
      have hec : c.e = ep := by
        rw [← HEP.out, ← hla]
        unfold epo17
        rw [if_neg (by rw [cvs_n]; omega)]
      rw [hec] at d0
      obtain ⟨n, hn⟩ : ∃ n, rs.length = n + 1 := ⟨rs.length - 1, by omega⟩
      have hn1 : rs.length - 1 = n := by omega
      have hn2 : (rs.length : Int) - 1 = (n : Int) := by omega
      have hn3 : (n : Int) < rs.length := by omega
      have hn4 : (0 : Int) < rs.length := by omega
      have hn5 : (0 : Int) ≤ (n : Int) := by omega
      rw [hn1] at d0
      obtain ⟨rfl, rfl⟩ := hv
      clear hcell hc hla hec hn hn1
      go_wp2
      go_meet
      case rel => exact ⟨rfl, rfl⟩
    · have h0' : ¬ (0 : Int) < rs.length := by omega
      have hep1 : (1 : Int) = ep := by
        rw [← HEP.out]
        unfold epo17
        rw [if_pos (by rw [cvs_n]; omega)]
      go_wp2
      go_meet
      case rel => exact ⟨rfl, rfl⟩
  case rest =>
  obtain ⟨rfl, rfl⟩ := hcut
  have EPB := (epo_ok GD.out).2
  rw [HEP.out] at EPB
  have EP64 : Hid (In64 ep) := hide ⟨by omega, by omega⟩
  have HLN : Hid ((cvs rs).length = rs.length) := hide (cvs_n rs)
  clear hnq hfe hfp
  have HPK : Hid (∀ (x : Int) (W : World), I64 x → ∃ f : Nat, f ≤ rs.length ∧ Calls Try.prog 24 #[.int .i64 x, .int .i64 ((rs.length : Int) + 1)] W fun E w' => E = .returned (.int .i64 (f : Int)) ∧ W = w') := hide fun x W hx => by
    have q := pickx_any x ((rs.length : Int) + 1) W (by omega) (by omega) hx
    have hpt := pk_lt x ((rs.length : Int) + 1) (by omega)
    obtain ⟨f0, hf0⟩ : ∃ n : Nat, pk x ((rs.length : Int) + 1) = (n : Int) := ⟨(pk x ((rs.length : Int) + 1)).toNat, by omega⟩
    rw [hf0] at q hpt
    refine ⟨f0, by omega, q.mono ?_⟩
    rintro E w' ⟨rfl, e⟩
    exact ⟨rfl, e⟩
  obtain ⟨f0, hfl, pk0⟩ := HPK.out t w2 It.out
  have PK := hide pk0
  have hw1 : IntKind.i64.wrap ((rs.length : Int) + 1) = (rs.length : Int) + 1 := wrap64s _ (by omega) (by omega)
  have SLC : Hid (∀ (W : World) (k : Nat), k ≤ rs.length → Below w.heap.size w W → ∃ vq, (∀ wx, (Instr.slice 22 (.slice ao rs.length cap) none (some (.int .i64 (k : Int))) none).run Try.prog wx = .ok vq wx) ∧ IsC W vq (rs.take k)) := hide fun W k hk hW => by
    obtain ⟨vq, hsl, rowq⟩ := (HI.out.below hW).1.slice_h Try.elemC Try.sizeC k (by omega)
    exact ⟨vq, hsl, rowq, fun c hc => (HI.out.below hW).2 c (List.mem_of_mem_take hc)⟩
  obtain ⟨vq, hsl, isq⟩ := SLC.out w2 f0 hfl B2.out
  have CP := hide (copyCs_any vq (rs.take f0) w2 isq (fun c hc => HF.out c (List.mem_of_mem_take hc)) (by rw [List.length_take]; omega))
  have ISQ := hide isq
  clear pk0 isq
  go_wp2_with fail
  refine PK.out.mono ?_
  rintro E w3 ⟨rfl, rfl⟩
  clear PK
  go_wp2_with fail
  refine CP.out.mono ?_
  rintro E w4 ⟨vp, ru, rfl, own4, ecv, cr4, b4⟩
  have hcv : cvs (rs.take f0) = (cvs rs).take f0 := by unfold cvs; rw [List.map_take]
  have G4 : Hid (Got w2.heap.size w4 vp ru ((cvs rs).take f0) ∧ Below w2.heap.size w2 w4) := hide (by
    have q := copy_got own4 ecv cr4 ISQ.out (fun c hc => HF.out c (List.mem_of_mem_take hc))
    rw [hcv] at q
    exact ⟨q, b4⟩)
  obtain ⟨va, vk, hvp, _, _⟩ := own4.row.shape
  have hru : ru.length = f0 := by rw [← cvs_n, ecv, cvs_n, List.length_take]; omega
  rw [hru] at hvp
  subst hvp
  clear CP own4 ecv cr4 b4 hcv hru hsl ISQ
  go_wp2
  go_loopw [8, 9] (fun gv iv wr => ∃ (i k : Nat) (gr : List Cw) (ga : Option Addr) (gk : Nat), gv = .slice ga k gk ∧ iv = .int .i64 (i : Int) ∧ i ≤ fs.length + rs.length + 1 ∧ k ≤ rs.length ∧ (fs.length ≤ i → min rs.length (i - fs.length) ≤ k) ∧ Hid (Got w2.heap.size wr (.slice ga k gk) gr ((cvs rs).take k) ∧ Below w2.heap.size w2 wr)) (fun _ iv _ => fs.length + rs.length + 1 - (intOf iv).toNat)
  case atStart => exact ⟨0, f0, ru, va, vk, rfl, rfl, by omega, hfl, by omega, G4⟩
  case round =>
    obtain ⟨i, k, gr, ga, gk, rfl, rfl, hi, hk, hmin, HGT⟩ := hrel
    have bW : Below w.heap.size w wr := B2.out.trans (HGT.out.2.mono B2.out.size)
    have hs1' : IntKind.i64.wrap ((fs.length : Int) + (rs.length : Int)) = (fs.length : Int) + (rs.length : Int) := wrap64s _ (by omega) (by omega)
    have hs2' : IntKind.i64.wrap ((fs.length : Int) + (rs.length : Int) + 1) = (fs.length : Int) + (rs.length : Int) + 1 := wrap64s _ (by omega) (by omega)
    by_cases hlt : i < fs.length + rs.length + 1
    · have hlt' : (i : Int) < (fs.length : Int) + (rs.length : Int) + 1 := by omega
      have hwi : IntKind.i64.wrap ((i : Int) + 1) = (i : Int) + 1 := wrap64s _ (by omega) (by omega)
      go_upto_if 63 with fail
      go_cut [10] from 58 to 71 (fun av wx => ∃ a : Nat, av = .int .i64 (a : Int) ∧ a ≤ rs.length ∧ (fs.length ≤ i → a = k) ∧ wr = wx)
      case first =>
        by_cases hif : i < fs.length
        · have hif' : (i : Int) < fs.length := by omega
          have hi0 : (0 : Int) ≤ (i : Int) := by omega
          obtain ⟨b, off, cap', hvx, _, _, hb, hcell⟩ := (HFV.out.below bW).full (by omega)
          simp only [Value.slice.injEq, true_and] at hvx
          obtain ⟨x, hx⟩ : ∃ x, fs[i]? = some x := ⟨fs[i], List.getElem?_eq_getElem hif⟩
          have d0 := hcell i hif
          rw [show fs.getD i 0 = x by rw [List.getD_eq_getElem?_getD, hx]; rfl] at d0
          obtain ⟨a, hal, pka⟩ := HPK.out x wr (HFI.out x (List.mem_of_getElem? hx))
          have PKA := hide pka
          obtain ⟨rfl, rfl⟩ := hvx
          clear hcell hx pka
          go_wp2_with fail
          refine PKA.out.mono ?_
          rintro E w5 ⟨rfl, rfl⟩
          go_wp2
          go_meet
          case rel => exact ⟨a, rfl, hal, by omega, rfl⟩
        · have hif' : ¬ (i : Int) < fs.length := by omega
          go_wp2
          go_meet
          case rel => exact ⟨k, rfl, hk, fun _ => rfl, rfl⟩
      case rest =>
      obtain ⟨a, rfl, hal, hak, rfl⟩ := hcut
      obtain ⟨z, tt, k', hz, htt, happ, hkk, hkl, hgr, hzz⟩ := all_step GD.out (by rw [HLN.out]; exact hs1) k a (by rw [HLN.out]; exact hk) (by rw [HLN.out]; exact hal)
      obtain ⟨e1, e2, e3, e4⟩ := nxt_is GD.out (by rw [HLN.out]; exact hs1) a (by rw [HLN.out]; exact hal)
      rw [HLN.out] at hkl hgr
      rw [HEP.out] at hz htt e1 e2 e3 e4
      have X1 := hide (pnext_any ep a _ rs wr (HI.out.below bW) HF.out (by omega) EP64.out ⟨by omega, by omega⟩)
      obtain ⟨m, hm⟩ : ∃ m, Shp.nxt ep (cvs rs) a = m := ⟨_, rfl⟩
      rw [e1, hm] at X1
      rw [hm] at e2 e3 e4 hz htt
      have E4 := hide e4
      have HZT := hide (And.intro hz htt)
      have HAP := hide happ
      have htl : tt.length ≤ 40 := by
        have q := congrArg List.length happ
        rw [List.length_append, List.length_take, List.length_take, HLN.out] at q
        omega
      have hgl : gr.length = k := by rw [← cvs_n, HGT.out.1.is, List.length_take, HLN.out]; omega
      have NX : Hid (fs.length ≤ i + 1 → min rs.length (i + 1 - fs.length) ≤ k') := hide (by
        intro q
        by_cases q2 : fs.length ≤ i
        · have := hmin q2
          have := hgr (hak q2)
          omega
        · omega)
      clear e1 e2 e3 e4 hm hz htt happ hgr hmin hak
      go_wp2_with fail
      refine X1.out.mono ?_
      intro E x1 hE
      obtain ⟨sa1, so1, ca1, co1, cs1, rfl, T1⟩ := hE.open
      obtain ⟨y1, hy1, b1, L1⟩ := blt_new T1
      have s1 : Below wr.heap.size wr y1 := T1.bel.trans (b1.mono T1.bel.size)
      have TK := hide (ptake_any ep _ gr (mw17 m sa1 so1 ca1 co1 cs1) 0 y1 (HGT.out.1.below s1).isC HGT.out.1.f (by omega) L1.own.is L1.fit (by rw [L1.m']; exact .inl ⟨rfl, E4.out⟩) EP64.out)
      rw [L1.m', HGT.out.1.is, HZT.out.1, HZT.out.2] at TK
      unfold mv mw17 at TK
      simp only at TK
      obtain ⟨p0, p1, p2, p3, p4, p5, p6, p7⟩ := L1.ei
      have D1 := hide (HGT.out.2.trans (s1.mono HGT.out.2.size))
      have G1 := hide (HGT.out.1.below s1)
      clear hE T1 b1 s1 X1 L1
      go_wp2_with fail
      refine TK.out.mono ?_
      intro E x2 hE
      obtain ⟨a2, j2, cs2, rfl, T2⟩ := hE.open
      have D2 := hide (D1.out.trans (T2.bel.mono D1.out.size))
      have G2 := G1.out.below T2.bel
      have GK : Got w2.heap.size x2 (.slice a2 tt.length j2) cs2 tt := got_of T2.sh T2.is D1.out.size
      have hcl : cs2.length = tt.length := T2.len
      have APP := hide (G2.more D2.out.size GK (by omega))
      rw [HAP.out] at APP
      have PB : Hid (∀ W, x2.grownBy W (Value.slice ga k gk).ownBlock → Below w2.heap.size w2 W) := hide fun W hW => D2.out.grown hW D2.out.size fun g hg => (World.ownsRow.lt G2.c g hg).1
      clear hE TK T2 G1 G2 GK hcl p0 p1 p2 p3 p4 p5 p6 p7 hy1 HGT HZT HAP E4
      have APP2 : Hid (∀ ty, ∃ v2 W2, (Builtin.append_ #[22, 22] ty #[.slice ga k gk, .slice a2 tt.length j2]).run Try.prog x2 = .ok v2 W2 ∧ ∃ rs2 aa qq, v2 = .slice aa k' qq ∧ Hid (Got w2.heap.size W2 v2 rs2 ((cvs rs).take k')) ∧ x2.grownBy W2 (Value.slice ga k gk).ownBlock) := hide fun ty => by
        obtain ⟨v2, W2, hr, ⟨rs2, G, gg⟩, _⟩ := APP.out ty
        obtain ⟨aa, qq, q, _⟩ := G.out.c.row.shape
        have hn8 : rs2.length = k' := by rw [← cvs_n, G.out.is, List.length_take, HLN.out]; omega
        rw [hn8] at q
        exact ⟨v2, W2, hr, rs2, aa, qq, q, G, gg⟩
      have FIN : Hid (∀ (W : World) (vg : Value) (r8 : List Cw), Hid (Got w2.heap.size W vg r8 ((cvs rs).take k')) → x2.grownBy W (Value.slice ga k gk).ownBlock → ∃ vs8, (∀ wx, (Instr.slice 22 (.slice ao rs.length cap) none (some (.int .i64 (k' : Int))) none).run Try.prog wx = .ok vs8 wx) ∧ ∃ qa qn qk, vs8 = .slice qa qn qk ∧ Hid (Calls Try.prog 17 #[vg, vs8] W fun E w' => E = .returned (.bool true) ∧ Below W.heap.size W w') ∧ Hid (Below w2.heap.size w2 W)) := hide fun W vg r8 G8 hW => by
        have B8 := PB.out W hW
        have BW8 := B2.out.trans (B8.mono B2.out.size)
        obtain ⟨vs8, hsl8, is8⟩ := SLC.out W k' hkl BW8
        have h8l : r8.length = k' := by rw [← cvs_n, G8.out.is, List.length_take, HLN.out]; omega
        obtain ⟨qa, qk, hvq, _, _⟩ := is8.1.shape
        have SC := sameCs_any vg vs8 r8 (rs.take k') W G8.out.isC is8 G8.out.f (fun c hc => HF.out c (List.mem_of_mem_take hc)) (by omega) (by rw [List.length_take]; omega)
        rw [G8.out.is, show cvs (rs.take k') = (cvs rs).take k' by unfold cvs; rw [List.map_take], sameV_iff.2 rfl] at SC
        exact ⟨vs8, hsl8, qa, _, qk, hvq, hide SC, hide B8⟩
      have hgt : ¬ (rs.length : Int) < (k' : Int) := by omega
      clear APP PB hgl htl
      have hka : z = 0 ∨ (z = 13 ∧ ¬ (a : Int) ≤ (k : Int)) := by
        rcases hzz with q | ⟨q1, q2⟩
        · exact .inl q
        · exact .inr ⟨q1, by omega⟩
      clear hzz
      rcases hka with rfl | ⟨rfl, hka⟩
      all_goals
        go_wp2_with (at_builtin; refine wpList_append_at rfl (.tmp 100) (.tmp 101) 22 rfl (.slice ga k gk) (.slice a2 tt.length j2) rfl rfl APP2.out ?_; rintro v8 w8 ⟨r8, a8, k8, rfl, G8, gr8⟩; obtain ⟨vs8, hsl8, qa, qn, qk, hvq, SC, B8⟩ := FIN.out w8 (.slice a8 k' k8) r8 G8 gr8; subst hvq; clear gr8)
        go_wp2_with fail
        refine SC.out.mono ?_
        rintro E w9 ⟨rfl, b9⟩
        have HG9 : Hid (Got w2.heap.size w9 (.slice a8 k' k8) r8 ((cvs rs).take k') ∧ Below w2.heap.size w2 w9) := hide ⟨G8.out.below b9, B8.out.trans (b9.mono B8.out.size)⟩
        clear SC b9 hsl8
        go_wp2
        go_roundw
        case rel => exact ⟨i + 1, k', r8, a8, k8, rfl, by go_num, by omega, hkl, NX.out, HG9⟩
        case measure => simp [intOf]; omega
    · have hlt' : ¬ (i : Int) < (fs.length : Int) + (rs.length : Int) + 1 := by omega
      have hke : k = rs.length := by omega
      subst hke
      go_wp2
      go_ret
      exact ⟨by simp, bW⟩

theorem i64_wf {x : Int} (h : (Lit.int .i64 x).wf = true) : I64 x := by
  have := range_i64 (zs := [x]) (by simpa using h) 0
  simpa [I64] using this

theorem takeAll_walk (v : Value) (rs : List Cw) (t : Int) (fv : Value) (fs : List Int) (w : World) (h : IsC w v rs) (hf : FitC rs) (hl : rs.length * 40 ≤ 140737488351232) (ht : (Lit.int .i64 t).wf = true) (hfv : Is .i64 w fv fs) (hfl : fs.length * 8 ≤ 140737488351232) :
    Calls Try.prog 6 #[v, .int .i64 t, fv] w fun E w' => E = .returned (.bool true) ∧ Below w.heap.size w w' :=
  takeAll_w v rs t fv fs w h hf (by omega) (i64_wf ht) hfv fun x hx => i64_wf (hfv.1 x hx)

end Go.Proofs.Ytfnaeblbodfekaa

/- Proved: TakeAll -/
namespace Go.Proofs.Ytfnaeblbodfekaa
open Go.ChangeShapes Go.WideShapes Go.ChangeAt Go.RowKit
open Go.ChangeMaps (open_string shut_string)
set_option linter.unusedVariables false

namespace takeAllFrame
theorem own : ownKnob Try.prog.godebug = none := by kernel_rfl
theorem laidOut : laidOutB Try.prog = true := by kernel_rfl
theorem bytes3 : Try.prog.bytesOf 3 = 8 := by kernel_rfl
theorem cells50 : Try.prog.cellsOf 50 = 3 := by kernel_rfl
theorem bytes50 : Try.prog.bytesOf 50 = 40 := by kernel_rfl
theorem cells59 : Try.prog.cellsOf 59 = 3 := by kernel_rfl
theorem bytes59 : Try.prog.bytesOf 59 = 40 := by kernel_rfl

set_option maxRecDepth 100000 in
theorem lifted (os : Os) (started : os.Started) (H : Type) (enc : TypeId × Value → H) :
    ReturnsInHanded {} Try.checked os 6 .any (Rows.takeAllSpec.pre6 enc Try.prog Try.f6 Rows.takeAllRow.domain false) (Rows.takeAllSpec.post enc Try.prog Try.f6 false true false false) := by
  refine returnsInHanded_of_change_sized (C := Try.checked) own started (by kernel_rfl) Try.func6
    (ChangeSpec.witness6 (enc := enc) (C := Try.checked) false ⟨#[], #[.slice none 0 0, .int .i64 0, .slice none 0 0], []⟩ 8 (by kernel_rfl) (by kernel_rfl) (by kernel_rfl) (by kernel_rfl)) ?_
  intro W base args ds gs before hval0 hW hcnd hsz0 _
  have hsz : (DataW.weightsEach Try.prog (Try.f6.params.toList ++ Rows.takeAllSpec.plain.varTypes Try.prog) (ds ++ gs)).all (· ≤ reachBytes) = true := hsz0
  clear hsz0
  have hval : ∀ (j : Nat) t v, Try.f6.params[j]? = some t → args[j]? = some v → Value.okWide Try.prog W .any base t v := hval0
  have hW' := hW
  obtain ⟨p, q, hA0, hV, rfl, hfz, hnd⟩ := hW
  have hA : DataW.TrodAll enc Try.prog W 0 (fun _ => true) true Try.f6.params.toList args.toList ds p := hA0
  rw [Try.params6] at hA hval hsz
  obtain ⟨v0, vs0, d0, ds0, p0, q0, hargs, rfl, rfl, h0, r0⟩ := trodAll_cons hA
  obtain ⟨v1, vs1, d1, ds1, p1, q1, rfl, rfl, rfl, h1, r1⟩ := trodAll_cons r0
  obtain ⟨v2, vs2, d2, ds2, p2, q2, rfl, rfl, rfl, h2, r2⟩ := trodAll_cons r1
  obtain ⟨rfl, rfl, rfl⟩ := trodAll_nil r2
  obtain rfl : args = #[v0, v1, v2] := by cases args; simp_all
  obtain ⟨rfl, rfl⟩ := trodVars_none hV
  obtain ⟨a0, len0, cap0, rfl⟩ := okWide_slice Try.underlying22 (hval 0 22 v0 rfl rfl)
  have k0 := h0
  have lt0 : ∀ x ∈ p0, x.block < W.heap.size := by obtain ⟨m, hm⟩ := k0; exact DataW.trod_lt m _ _ _ hm
  obtain ⟨z0, w0, g0, b0⟩ : ∃ r, IsC W (.slice a0 len0 cap0) r ∧ FitC r ∧ r.length * 40 ≤ 140737488351232 := by
    obtain ⟨fuel, hf⟩ := h0
    have hf' : DataW.trod enc Try.prog W 0 (fun _ => true) true fuel 22 [.slice a0 len0 cap0] = some (d0, p0) := by simpa [Value.cells] using hf
    obtain ⟨r, hr, hd⟩ := open_coms Try.underlying22 Try.underlying50 (by kernel_rfl) cells50 Try.underlying3 Try.underlying3 Try.underlying48 Try.underlying59 (by kernel_rfl) cells59 Try.underlying4 Try.underlying9 Try.underlying9 hf'
    rcases hd with ⟨_, rfl⟩ | ⟨es, sp, hd, hln, hes⟩
    · exact ⟨[], hr, fun c hc => by simp at hc, by simp⟩
    · simp only at hd
      rw [hd] at hsz
      obtain ⟨h1, h2⟩ := sized_coms hsz (j := 0) (t := 22) (e := 50) rfl rfl hln hes Try.underlying22 Try.underlying50 bytes50 Try.underlying48 Try.underlying59 bytes59
      exact ⟨r, hr, h1, h2⟩
  obtain ⟨a1, rfl, rfl, rfl, w1⟩ := open_int Try.underlying3 (hval 1 3 v1 rfl rfl) h1
  obtain ⟨a2, len2, cap2, rfl⟩ := okWide_slice Try.underlying53 (hval 2 53 v2 rfl rfl)
  have k2 := h2
  have lt2 : ∀ x ∈ p2, x.block < W.heap.size := by obtain ⟨m, hm⟩ := k2; exact DataW.trod_lt m _ _ _ hm
  obtain ⟨z2, w2, b2⟩ : ∃ zs, Is .i64 W (.slice a2 len2 cap2) zs ∧ zs.length * 8 ≤ 140737488351232 := by
    obtain ⟨fuel, hf⟩ := h2
    rcases open_ints Try.underlying53 Try.underlying3 (by kernel_rfl) hf with ⟨hcs, _⟩ | ⟨x, l, c, zs, hcs, _, hl, hm, hz, hx, hcell, hwz⟩
    · simp [Value.cells] at hcs
      obtain ⟨rfl, rfl, rfl⟩ := hcs
      exact ⟨[], Is.nil _ _, by simp⟩
    · simp [Value.cells] at hcs
      obtain ⟨rfl, rfl, rfl⟩ := hcs
      have hd : d2 = _ := (Prod.mk.inj hx).1
      have hzl : zs.length = cap2 := by simpa using hz
      have hlen : (zs.take len2).length = len2 := by rw [List.length_take]; omega
      refine ⟨zs.take len2, ⟨fun z hz => hwz z (List.mem_of_mem_take hz), .inr ⟨x, cap2, by rw [hlen], by omega, hm, fun j hj => ?_⟩⟩, ?_⟩
      · rw [hlen] at hj
        rw [hcell j (by omega)]
        simp [List.getD, hj]
      · rw [hd] at hsz
        have := sized_slice hsz (j := 2) (t := 53) (e := 3) rfl rfl Try.underlying53
        rw [bytes3] at this
        simp only [lits, List.length_map, List.length_take, List.length_drop, reachBytes] at this
        rw [hlen]
        omega
  clear hA0 hval0
  refine (takeAll_walk _ z0 a1 _ z2 W w0 g0 b0 w1 w2 b2).mono fun e W' ⟨he, bel⟩ => ?_
  subst he
  exact ⟨_, rfl, _, _, _, [], _, [], hW', trodAll_mk1 (shut_bool Try.underlying4 _), (trodAll_cons_mk (Below.trod laidOut (by kernel_rfl) (of_decide_eq_true (by kernel_rfl)) k0 bel lt0) (trodAll_cons_mk (shut_int Try.underlying3 w1) (trodAll_cons_mk (Below.trod laidOut (by kernel_rfl) (of_decide_eq_true (by kernel_rfl)) k2 bel lt2) trodAll_mk0))), rfl, bel.frame _, fun h => by cases h⟩

theorem over : Rows.takeAllRow.holds Try.pinned (OpenSpec.ofChange Rows.takeAllSpec) :=
  OpenClaim.holds_of_wide 6 Try.f6 rfl rfl rfl rfl rfl rfl rfl ⟨rfl, rfl, rfl, rfl, rfl⟩ rfl rfl rfl rfl rfl (by kernel_rfl) Try.func6 (by kernel_rfl)
    (of_decide_eq_true (by kernel_rfl)) (by unfold Func.isWrapper; first | (rw [if_pos (by decide +kernel)]; kernel_rfl) | (rw [if_neg (by decide +kernel)]; exact ⟨rfl, rfl⟩))
    (fun os started H enc _ => lifted os started H enc)
end takeAllFrame

/-- The statement. -/
theorem takeAll_holds : Rows.TakeAllSaid := takeAllFrame.over
#print axioms takeAll_holds
end Go.Proofs.Ytfnaeblbodfekaa
