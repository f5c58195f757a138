/- Texts of one layer, one behind the other. -/
import Derived.Test.YthmecljkackmbaaGreatGK7
import Derived.Test.YthmecljkackmbaaGreatRows
import Derived.ProofKit
import Derived.OpenShut
import Derived.ShutString
import Derived.ChangeOld
import Derived.Below
import Derived.SizedLaws
import Derived.Test.YthmecljkackmbaaGreatGFr
/- StoreAgain: a store that is opened again reads what it read before. -/
namespace Go.Proofs.YthmecljkackmbaaGreat
open Go.RowKit
open Bm (Ov)
set_option linter.unusedVariables false

/-- What the log's commits are made of. -/
def Mde (w : World) (rs : List Cw) : Prop := ∀ c ∈ rs, IsO w c.v c.l ∧ FitO c.l ∧ c.l.length ≤ 8 ∧ In64 c.e ∧ In64 c.n

set_option maxRecDepth 20000 in
set_option maxHeartbeats 16000000 in
theorem storeAgain_walk (v : Value) (r : List Rw) (vf : Value) (zs : List Int) (w : World) (h : IsLL w v r) (hf : FitL r) (hr : r.length * 24 ≤ 140737488351232) (hz : Is .i64 w vf zs) (hz8 : zs.length * 8 ≤ 140737488351232) :
    Calls Tryz.prog 7 #[v, vf] w fun e w' => e = .returned (.bool true) ∧ Below w.heap.size w w' := by
  have HQ := hide h
  have HFQ := hide hf
  have HZ := hide hz
  obtain ⟨qa, qc, hvl, _, _⟩ := h.1.shape
  obtain ⟨za, zc, hvz, _, _⟩ := hz.shape
  subst hvl hvz
  clear h hf hz
  go_enter Tryz.func7, Tryz.ntmps7
  go_wp2_with fail
  refine (slives_any w).mono ?_
  rintro E w1 ⟨rfl, b1⟩
  have B1 := hide b1
  clear b1
  by_cases hn0 : (40 : Int) < r.length
  · go_wp2
    go_ret
    exact ⟨rfl, B1.out⟩
  have hll : r.length ≤ 40 := by omega
  have HQ1 := hide (HQ.out.below B1.out)
  have HZ1 := hide (HZ.out.below B1.out)
  clear HQ HZ
  go_wp2_with fail
  refine (new_any w1).mono ?_
  rintro E w2 ⟨rfl, K2, b2⟩
  have HO := hide (rnew_any w1 w2 w1.heap.size (Nat.le_refl _) K2 b2)
  clear K2 b2
  go_wp2_with fail
  refine HO.out.mono ?_
  rintro E w3 ⟨p, F3, rfl, W3, g3, b3⟩
  obtain ⟨q, hq⟩ : ∃ q, q = w1.heap.size := ⟨_, rfl⟩
  rw [← hq] at W3
  rw [← hq]
  have HS := hide (sopen_any p q F3 w3 rs0 (.slice none 0 0) [] W3 ⟨RowC.nil _, fun c hc => by simp at hc⟩ (fun c hc => by simp at hc) (by simp))
  have HW := hide (And.intro W3 (And.intro g3 b3))
  clear HO W3 g3 b3 hq
  go_wp2_with fail
  refine HS.out.mono ?_
  rintro E w4 (⟨h0, _⟩ | ⟨_, ps, rfl, S4⟩)
  · exact absurd rfl h0
  have N4 : Hid (∃ F, Sn w1 w4 ps p q F ⟨rs0, []⟩) := hide (by
    obtain ⟨G, k1, k2, k3⟩ := S4
    obtain ⟨W3, g3, b3⟩ := HW.out
    have hz := b3.size
    refine ⟨_, sk_sw W3 k3 k1 k2 ⟨trivial, trivial⟩, ?_, b3.trans (k3.mono hz)⟩
    rintro g (e | e)
    · exact g3 g e
    · have := k2 g e
      omega)
  clear S4 HW HS
  obtain ⟨F4, N4⟩ := N4.out
  have N4 := hide N4
  go_wp2_with fail
  go_loopw [10, 11] (fun lv iv wr => ∃ (j : Nat) (F : Nat → Prop) (s : Sto.Ss) (rs : List Cw), j ≤ r.length ∧ iv = .int .i64 j ∧ Hid (Sn w1 wr ps p q F s) ∧ Hid (Ag s (cvs rs)) ∧ Hid (Big (52236 * j) (818 * j) s.r.d) ∧ Hid (rs.length = j) ∧ Hid (Lgr w1 wr F lv rs) ∧ Hid (Mde w1 rs)) (fun _ iv _ => r.length - (intOf iv).toNat)
  case atStart => exact ⟨0, F4, _, [], by omega, rfl, N4, hide Ag.new, hide big_new, hide rfl, hide (Lgr.nil _ _ _), hide (fun c hc => by simp at hc)⟩
  case round =>
    obtain ⟨j, F, s, rs, hj, rfl, NR, AR, BR, LR, GR, MR⟩ := hrel
    clear N4
    obtain ⟨la, lk, hlv⟩ : ∃ a k, u10 = .slice a j k := by
      obtain ⟨a1, k1, h1, _⟩ := GR.out.1.row.shape
      rw [LR.out] at h1
      exact ⟨a1, k1, h1⟩
    subst hlv
    by_cases hlt : j < r.length
    · obtain ⟨qb, qo, qk, hvx, _, _, hqb, hcell⟩ := (HQ1.out.below NR.out.bel).full (by omega)
      simp only [Value.slice.injEq, true_and] at hvx
      obtain ⟨rfl, rfl⟩ := hvx
      obtain ⟨⟨av, al⟩, ha⟩ : ∃ a, r[j]? = some a := ⟨r[j], by rw [List.getElem?_eq_getElem]⟩
      have d0 := hcell j _ ha
      have hm := List.mem_of_getElem? ha
      have io1 := HQ1.out.2 _ hm
      have fo := HFQ.out _ hm
      obtain ⟨ao, ak, hao, _, _⟩ := io1.shape
      simp only at d0 io1 fo hao
      have hlt' : (j : Int) < r.length := by omega
      have hj0 : (0 : Int) ≤ (j : Int) := by omega
      have hw1 : IntKind.i64.wrap ((j : Int) + 1) = (j : Int) + 1 := wrap_i64_small _ (by omega) (by omega)
      obtain ⟨wc, hwc, hwc2, szc, belc, bC, x0, x1, x2⟩ := new_step wr 55 (.int .i64 0) (.int .i64 0) (.slice none 0 0) (.int .i64 1) (.int .i64 ((j : Int) + 1)) av
      have NC := hide (NR.out.below belc)
      have HLT := hide NR.out.sw.lt
      have GC := hide (GR.out.below belc)
      have d1 := (belc.cell (p := ⟨qb, qo + j, none⟩) (World.block_lt_of_cell? _ _ d0)).trans d0
      have HIO := hide (And.intro io1 fo)
      have HBC := hide bC
      have HBEL := hide (B1.out.trans (NC.out.bel.mono B1.out.size))
      have hszc := hide szc
      subst hao
      clear hcell ha hm io1 fo NR GR bC belc szc
      by_cases h8 : (8 : Int) < al.length
      · go_wp2
        go_ret
        exact ⟨rfl, HBEL.out⟩
      have hal : al.length ≤ 8 := by omega
      obtain ⟨sl1, sl2⟩ := AR.out.small
      have hl40 : al.length * 40 ≤ 140737488351232 := by omega
      have h64 : In64 1 ∧ In64 ((j : Int) + 1) := ⟨⟨by omega, by omega⟩, ⟨by omega, by omega⟩⟩
      have HAP := hide (sapply_any ps p q F wc s ⟨1, (j : Int) + 1, .slice ao al.length ak, al⟩ NC.out.sw (HIO.out.1.below NC.out.bel) HIO.out.2 h64 hl40 (fun hp b hb hf => by
        have h1 := NC.out.fb b hf
        obtain ⟨g', off', cap', hv', _, _, hg', _⟩ := HIO.out.1.full hp
        simp only [Value.slice.injEq] at hv'
        obtain ⟨rfl, _⟩ := hv'
        simp [Value.ownBlock] at hb
        omega) (by omega))
      unfold cmv at HAP
      obtain ⟨c, hc⟩ : ∃ c : Cm.Cv, (⟨1, (j : Int) + 1, .slice ao al.length ak, al⟩ : Cw).c = c := ⟨_, rfl⟩
      rw [hc] at HAP
      simp only at HAP
      have HC := hide hc
      obtain ⟨ae, hae⟩ : ∃ x, (Sto.apl s c).1 = x := ⟨_, rfl⟩
      rw [hae] at HAP
      have HAE := hide hae
      clear h64 hl40 hc hae sl1 sl2
      go_wp2_with fail
      refine HAP.out.mono ?_
      rintro E wd ⟨rfl, SD⟩
      obtain ⟨FD, ND, OD, nD⟩ := NC.out.step SD
      by_cases he0 : ae = 0
      · have AD := hide (AR.out.apl c (HAE.out.trans he0) (by have := LR.out; rw [cvs, List.length_map]; omega))
        have GD := GC.out.out OD nD
        have hwne : ¬ F wr.heap.size := fun hf => by have := HLT.out _ hf; omega
        have hBd := (OD.block wr.heap.size (blk_lt HBC.out) hwne).trans HBC.out
        have y0 := blk_cell hBd 0 rfl
        have y1 := blk_cell hBd 1 rfl
        have y2 := blk_cell hBd 2 rfl
        simp only [List.getElem_toArray, List.getElem_cons_zero, List.getElem_cons_succ] at y0 y1 y2
        obtain ⟨we, hwe, sze, bele, owne⟩ := coms_step 55 wd #[.int .i64 1, .int .i64 ((j : Int) + 1), .slice ao al.length ak] 1 [⟨1, (j : Int) + 1, .slice ao al.length ak, al⟩] rfl rfl (by simp [maxLen])
        have NE := hide (ND.below bele)
        have GE := hide (GD.below bele)
        have hre := GE.out.1
        have rowe := owne.row
        have hone : ∀ c ∈ [(⟨1, (j : Int) + 1, .slice ao al.length ak, al⟩ : Cw)], c.v.oneCell' = true := fun c hc => by rw [List.mem_singleton.1 hc]; rfl
        have hlen : (rs.length + [(⟨1, (j : Int) + 1, .slice ao al.length ak, al⟩ : Cw)].length) * 40 ≤ 140737488355328 := by have := LR.out; simp; omega
        have hze : w1.heap.size ≤ we.heap.size := NE.out.bel.size
        subst he0
        clear SD ND OD nD GD hwne hBd bele owne HAP NC GC sze
        go_wp2_with (at_builtin; refine wpList_append_comsA rfl (.tmp 66) (.tmp 68) 27 rfl 55 w1.heap.size Tryz.underlying27 Tryz.info55 _ rs rfl hre _ [⟨1, (j : Int) + 1, .slice ao al.length ak, al⟩] rfl rowe hone hlen hze ?_)
        rintro v7 w7 own7 gr7 at7
        have N7 := hide (NE.out.grown GE.out gr7)
        have L7 : Hid (Lgr w1 w7 FD v7 (rs ++ [⟨1, (j : Int) + 1, .slice ao al.length ak, al⟩])) := hide ⟨own7, fun b hb hf => by
          rcases at7 with e | e
          · exact GE.out.2 b (e ▸ hb) hf
          · rw [e] at hb
            simp at hb
            have := NE.out.sw.lt b hf
            omega⟩
        have M7 : Hid (Mde w1 (rs ++ [⟨1, (j : Int) + 1, .slice ao al.length ak, al⟩])) := hide fun x hx => by
          rcases List.mem_append.1 hx with hx | hx
          · exact MR.out x hx
          · rw [List.mem_singleton.1 hx]
            exact ⟨HIO.out.1, HIO.out.2, by show al.length ≤ 8; omega, ⟨by show (-9223372036854775808 : Int) ≤ 1; omega, by show (1 : Int) < 9223372036854775808; omega⟩, ⟨by show (-9223372036854775808 : Int) ≤ (j : Int) + 1; omega, by show (j : Int) + 1 < 9223372036854775808; omega⟩⟩
        have A7 : Hid (Ag (Sto.apl s c).2 (cvs (rs ++ [⟨1, (j : Int) + 1, .slice ao al.length ak, al⟩]))) := hide (by
          have e : cvs (rs ++ [(⟨1, (j : Int) + 1, .slice ao al.length ak, al⟩ : Cw)]) = cvs rs ++ [c] := by
            rw [← HC.out]
            simp [cvs]
          rw [e]
          exact AD.out)
        have Z7 : Hid (Big (52236 * j) (818 * j) (Sto.apl s c).2.r.d) := hide (by rw [apl_r]; exact BR.out)
        have LN7 : Hid ((rs ++ [(⟨1, (j : Int) + 1, .slice ao al.length ak, al⟩ : Cw)]).length = j + 1) := hide (by rw [List.length_append, LR.out]; rfl)
        obtain ⟨xa, xn, xk, hx7⟩ : ∃ a n k, v7 = .slice a n k := by
          obtain ⟨a1, k1, h1, _⟩ := own7.row.shape
          exact ⟨a1, _, k1, h1⟩
        subst hx7
        generalize rs ++ [(⟨1, (j : Int) + 1, .slice ao al.length ak, al⟩ : Cw)] = rs7 at *
        generalize (Sto.apl s c).2 = s7 at *
        clear own7 gr7 at7 hre rowe NE GE AD y0 y1 y2 hlen hone d0 d1 x0 x1 x2
        by_cases hfl : j < zs.length
        · have hfl' : (j : Int) < zs.length := by omega
          obtain ⟨zb, zo, zk, hzx, _, _, hzb, hzc⟩ := (HZ1.out.below N7.out.bel).full (by omega)
          simp only [Value.slice.injEq, true_and] at hzx
          obtain ⟨rfl, rfl⟩ := hzx
          have dz := hzc j hfl
          have hi := range_i64 HZ1.out.1 j
          rw [List.getD_eq_getElem?_getD] at dz
          obtain ⟨x, hx⟩ : ∃ x, zs[j]?.getD 0 = x := ⟨_, rfl⟩
          rw [hx] at dz hi
          have hw2 : IntKind.i64.wrap ((j : Int) + 2) = (j : Int) + 2 := wrap_i64_small _ (by omega) (by omega)
          have HP := hide (pickx_any x ((j : Int) + 2) w7 (by omega) (by omega) hi)
          obtain ⟨q1, q2⟩ := pk_lt x ((j : Int) + 2) (by omega)
          generalize pk x ((j : Int) + 2) = y at *
          obtain ⟨sl1, sl2⟩ := A7.out.small
          have HF := hide (sflush_any ps p q FD w7 s7 y N7.out.sw (rbig_of Z7.out (by omega) (by omega)) ⟨by omega, by omega⟩ (by omega))
          have A8 := hide (A7.out.flu y)
          have Z8 : Hid (Big (52236 * (j + 1)) (818 * (j + 1)) (Sto.flu s7 y).2.r.d) := hide ((big_sflu Z7.out).mono (by omega) (by omega))
          clear hzc hx hi sl1 sl2 q1 q2
          go_wp2_with fail
          refine HP.out.mono ?_
          rintro E w8 ⟨rfl, rfl⟩
          go_wp2_with fail
          refine HF.out.mono ?_
          rintro E w8 ⟨rfl, S8⟩
          obtain ⟨F8, N8, O8, n8⟩ := N7.out.step S8
          have N8 := hide N8
          have L8 := hide (L7.out.out O8 n8)
          clear S8 O8 n8 N7 L7 A7 HF HP dz
          go_wp2
          go_roundw
          case rel => exact ⟨j + 1, F8, _, rs7, by omega, by go_num, N8, hide A8.out.1, Z8, LN7, L8, M7⟩
          case measure => simp [intOf]; omega
        · have hfl' : ¬ (j : Int) < zs.length := by omega
          have Z8 : Hid (Big (52236 * (j + 1)) (818 * (j + 1)) s7.r.d) := hide (Z7.out.mono (by omega) (by omega))
          go_wp2
          go_roundw
          case rel => exact ⟨j + 1, FD, s7, rs7, by omega, by go_num, N7, A7, Z8, LN7, L7, M7⟩
          case measure => simp [intOf]; omega
      · have hne : (ae != 0) = true := by simpa using he0
        have BE := hide (B1.out.trans (ND.bel.mono B1.out.size))
        clear SD ND OD nD HAP
        go_wp2
        go_ret
        exact ⟨rfl, BE.out⟩
    · obtain rfl : j = r.length := by omega
      have hlt' : ¬ ((r.length : Nat) : Int) < r.length := by omega
      obtain ⟨ru, hk⟩ := AR.out.kin
      have HA := hide (NR.out.again hk (BR.out.mono (by omega) (by omega)))
      obtain ⟨sl1, sl2⟩ := AR.out.small
      obtain ⟨mk, hmk⟩ : ∃ k : Nat, Cm.lastN 0 s.r.l = k := ⟨(Cm.lastN 0 s.r.l).toNat, by have := AR.out.ok.bound.1; omega⟩
      have hle := AR.out.le
      have hln := AR.out.len
      have hrest := AR.out.rest
      have hcl : (cvs rs).length = r.length := by rw [cvs, List.length_map]; exact LR.out
      rw [hmk] at hle hln hrest
      rw [hcl] at hle hln
      have HMK := hide hmk
      have HREST : Hid (cvs (rs.drop mk) = s.l) := hide (by rw [hrest]; simp [cvs])
      have HOK := hide AR.out.ok
      have hmr : mk ≤ r.length := by omega
      have hsl : s.l.length = r.length - mk := by omega
      clear hk hle hln hrest hmk
      go_wp2_with fail
      refine HA.out.mono ?_
      rintro E w5 ⟨p', rfl, F1, F2, N5, R5, O5, n5, f5⟩
      have G5 := hide (GR.out.out O5 n5)
      have HE5 : Hid (∀ W, Below w5.heap.size w5 W → Calls Tryz.prog 40 #[.pointer (some ⟨p', 0, none⟩)] W fun E w' => E = .returned (.int .i64 mk) ∧ W = w') := hide fun W hW => by
        have := hrend_any p' q F2 W s.r (R5.below hW)
        rw [HMK.out] at this
        exact this
      have HR5 := hide (sRest_any ps p q F1 w5 s N5.sw)
      rw [hsl] at HR5
      have HX := hide (And.intro N5 (And.intro R5 f5))
      have hw3 : IntKind.i64.wrap ((r.length : Int) - ((r.length - mk : Nat) : Int)) = (mk : Int) := by rw [wrap_i64_small _ (by omega) (by omega)]; omega
      have hng : ¬ (r.length : Int) < (mk : Int) := by omega
      clear HA N5 R5 O5 n5 f5 NR GR hsl
      go_wp2_with fail
      refine (HE5.out w5 (Below.refl _ _)).mono ?_
      rintro E w6 ⟨rfl, rfl⟩
      go_wp2_with fail
      refine (HE5.out w5 (Below.refl _ _)).mono ?_
      rintro E w6 ⟨rfl, rfl⟩
      go_wp2_with fail
      refine HR5.out.mono ?_
      rintro E w6 ⟨rfl, b6⟩
      have G6 := G5.out.below b6
      obtain ⟨vs, hvs, rowk⟩ := G6.1.row.slice_le Tryz.elemC Tryz.sizeC mk (by rw [LR.out]; exact hmr)
      have B16 : Below w1.heap.size w1 w6 := HX.out.1.bel.trans (b6.mono HX.out.1.bel.size)
      have HS := hide (sopen_any p' q F2 w6 s.r vs (rs.drop mk) (HX.out.2.1.below b6) ⟨rowk, fun x hx => ⟨(MR.out x (List.mem_of_mem_drop hx)).1.below B16, (MR.out x (List.mem_of_mem_drop hx)).2.2.2⟩⟩ (fun x hx => ⟨(MR.out x (List.mem_of_mem_drop hx)).2.1, by have := (MR.out x (List.mem_of_mem_drop hx)).2.2.1; omega⟩) (by rw [List.length_drop, LR.out]; omega))
      rw [HREST.out, (Cm.fol_good _ _ _ 0).2 HOK.out.rest] at HS
      obtain ⟨sa, sn, sk, hsh⟩ : ∃ x y z, vs = .slice x y z := by
        obtain ⟨x, y, h, _⟩ := rowk.shape
        exact ⟨x, _, y, h⟩
      subst hsh
      have B6 := hide b6
      have HE6 := hide (HE5.out w6 b6)
      clear HR5 G5 G6 rowk b6 B16 HE5
      go_wp2_with fail
      refine HE6.out.mono ?_
      rintro E w7 ⟨rfl, rfl⟩
      go_wp2_with fail
      refine HS.out.mono ?_
      rintro E w7 (⟨h0, _⟩ | ⟨_, pt, rfl, ST⟩)
      · exact absurd rfl h0
      obtain ⟨GT, k1, k2, k3⟩ := ST
      obtain ⟨N5, R5, f5⟩ := HX.out
      have N7 := hide ((N5.below B6.out).below k3)
      have T7 : Hid (Sn w1 w7 pt p' q (fun g => F2 g ∨ GT g) s) := hide ⟨sk_sw (R5.below B6.out) k3 k1 k2 HOK.out, fun g hg => hg.elim (f5 g) fun e => by have h1 := k2 g e; have h2 := N5.bel.size; have h3 := B6.out.size; omega, N7.out.bel⟩
      have HE1 := hide (sEnd_any pt p' q _ w7 s T7.out.sw)
      clear HS HX k1 k2 k3 N5 R5 f5 HE6
      go_wp2_with fail
      refine HE1.out.mono ?_
      rintro E w8 ⟨rfl, b8⟩
      have N8 := hide (N7.out.below b8)
      have T8 := hide (T7.out.below b8)
      have HE2 := hide (sEnd_any ps p q _ w8 s N8.out.sw)
      clear HE1 N7 T7 b8
      go_wp2_with fail
      refine HE2.out.mono ?_
      rintro E w9 ⟨rfl, b9⟩
      have N9 := hide (N8.out.below b9)
      have T9 := hide (T8.out.below b9)
      have HR1 := hide (sRest_any pt p' q _ w9 s T9.out.sw)
      clear HE2 N8 T8 b9
      go_wp2_with fail
      refine HR1.out.mono ?_
      rintro E wa ⟨rfl, ba⟩
      have NA := hide (N9.out.below ba)
      have TA := hide (T9.out.below ba)
      have HR2 := hide (sRest_any ps p q _ wa s NA.out.sw)
      clear HR1 N9 T9 ba
      go_wp2_with fail
      refine HR2.out.mono ?_
      rintro E wb ⟨rfl, bb⟩
      have NB := hide (NA.out.below bb)
      have TB := hide (TA.out.below bb)
      have HA1 := hide (TB.out.all 1000 (by omega) (by omega))
      clear HR2 NA TA bb
      go_wp2_with fail
      refine HA1.out.mono ?_
      rintro E wc ⟨vc, rfl, oc, bc⟩
      have NC := hide (NB.out.below bc)
      have HA2 := hide (NC.out.all 1000 (by omega) (by omega))
      obtain ⟨ca, cn, ck, hvc⟩ : ∃ a n k, vc = .slice a n k := by
        obtain ⟨a1, k1, h1, _⟩ := oc.is.shape
        exact ⟨a1, _, k1, h1⟩
      subst hvc
      have OC := hide oc
      clear HA1 NB TB bc oc
      go_wp2_with fail
      refine HA2.out.mono ?_
      rintro E wd ⟨vd, rfl, od, bd⟩
      have ND := hide (NC.out.below bd)
      have hl1 : ((Tm.live (Sto.fold s)).take 1000).length ≤ 140737488355328 := by rw [List.length_take]; omega
      have HSM := hide (sameO_any _ vd _ _ wd (OC.out.below bd).is od.is hl1 hl1)
      rw [Bm.sameL_self] at HSM
      obtain ⟨da, dn, dk, hvd⟩ : ∃ a n k, vd = .slice a n k := by
        obtain ⟨a1, k1, h1, _⟩ := od.is.shape
        exact ⟨a1, _, k1, h1⟩
      subst hvd
      clear HA2 NC OC od bd hl1
      go_wp2_with fail
      refine HSM.out.mono ?_
      rintro E we ⟨rfl, be⟩
      have BE := hide (B1.out.trans ((ND.out.below be).bel.mono B1.out.size))
      clear HSM ND be
      go_wp2
      go_ret
      exact ⟨rfl, BE.out⟩

end Go.Proofs.YthmecljkackmbaaGreat

/- Proved: StoreAgain -/
namespace Go.Proofs.YthmecljkackmbaaGreat
open Go.ChangeShapes Go.WideShapes Go.ChangeAt Go.RowKit
open Go.ChangeMaps (open_string shut_string)
set_option linter.unusedVariables false

namespace storeAgainFrame
theorem own : ownKnob Tryz.prog.godebug = none := by kernel_rfl
theorem laidOut : laidOutB Tryz.prog = true := by kernel_rfl
theorem bytes3 : Tryz.prog.bytesOf 3 = 8 := by kernel_rfl
theorem cells53 : Tryz.prog.cellsOf 53 = 1 := by kernel_rfl
theorem bytes53 : Tryz.prog.bytesOf 53 = 24 := by kernel_rfl
theorem cells81 : Tryz.prog.cellsOf 81 = 3 := by kernel_rfl
theorem bytes81 : Tryz.prog.bytesOf 81 = 40 := by kernel_rfl

set_option maxRecDepth 100000 in
theorem lifted (os : Os) (started : os.Started) (H : Type) (enc : TypeId × Value → H) :
    ReturnsInHanded {} Tryz.checked os 7 .any (Rows.storeAgainSpec.pre6 enc Tryz.prog Tryz.f7 Rows.storeAgainRow.domain false) (Rows.storeAgainSpec.post enc Tryz.prog Tryz.f7 false true false false) := by
  refine returnsInHanded_of_change_sized (C := Tryz.checked) own started (by kernel_rfl) Tryz.func7
    (ChangeSpec.witness6 (enc := enc) (C := Tryz.checked) false ⟨#[], #[.slice none 0 0, .slice none 0 0], []⟩ 8 (by kernel_rfl) (by kernel_rfl) (by kernel_rfl) (by kernel_rfl)) ?_
  intro W base args ds gs before hval0 hW hcnd hsz0 _
  have hsz : (DataW.weightsEach Tryz.prog (Tryz.f7.params.toList ++ Rows.storeAgainSpec.plain.varTypes Tryz.prog) (ds ++ gs)).all (· ≤ reachBytes) = true := hsz0
  clear hsz0
  have hval : ∀ (j : Nat) t v, Tryz.f7.params[j]? = some t → args[j]? = some v → Value.okWide Tryz.prog W .any base t v := hval0
  have hW' := hW
  obtain ⟨p, q, hA0, hV, rfl, hfz, hnd⟩ := hW
  have hA : DataW.TrodAll enc Tryz.prog W 0 (fun _ => true) true Tryz.f7.params.toList args.toList ds p := hA0
  rw [Tryz.params7] at hA hval hsz
  obtain ⟨v0, vs0, d0, ds0, p0, q0, hargs, rfl, rfl, h0, r0⟩ := trodAll_cons hA
  obtain ⟨v1, vs1, d1, ds1, p1, q1, rfl, rfl, rfl, h1, r1⟩ := trodAll_cons r0
  obtain ⟨rfl, rfl, rfl⟩ := trodAll_nil r1
  obtain rfl : args = #[v0, v1] := by cases args; simp_all
  obtain ⟨rfl, rfl⟩ := trodVars_none hV
  obtain ⟨a0, len0, cap0, rfl⟩ := okWide_slice Tryz.underlying73 (hval 0 73 v0 rfl rfl)
  have k0 := h0
  have lt0 : ∀ x ∈ p0, x.block < W.heap.size := by obtain ⟨m, hm⟩ := k0; exact DataW.trod_lt m _ _ _ hm
  obtain ⟨z0, w0, g0, b0⟩ : ∃ r, IsLL W (.slice a0 len0 cap0) r ∧ FitL r ∧ r.length * 24 ≤ 140737488351232 := by
    obtain ⟨fuel, hf⟩ := h0
    have hf' : DataW.trod enc Tryz.prog W 0 (fun _ => true) true fuel 73 [.slice a0 len0 cap0] = some (d0, p0) := by simpa [Value.cells] using hf
    obtain ⟨r, hr, hd⟩ := open_lists Tryz.underlying73 Tryz.underlying53 cells53 Tryz.underlying81 (by kernel_rfl) cells81 Tryz.underlying4 Tryz.underlying9 Tryz.underlying9 hf'
    rcases hd with ⟨_, rfl⟩ | ⟨es, sp, hd, hln, hes⟩
    · exact ⟨[], hr, fun c hc => by simp at hc, by simp⟩
    · simp only at hd
      rw [hd] at hsz
      obtain ⟨h1, h2⟩ := sized_lists hsz (j := 0) (t := 73) (e := 53) rfl rfl hln hes Tryz.underlying73 Tryz.underlying53 bytes53 Tryz.underlying81 bytes81
      exact ⟨r, hr, h1, h2⟩
  obtain ⟨a1, len1, cap1, rfl⟩ := okWide_slice Tryz.underlying74 (hval 1 74 v1 rfl rfl)
  have k1 := h1
  have lt1 : ∀ x ∈ p1, x.block < W.heap.size := by obtain ⟨m, hm⟩ := k1; exact DataW.trod_lt m _ _ _ hm
  obtain ⟨z1, w1, b1⟩ : ∃ zs, Is .i64 W (.slice a1 len1 cap1) zs ∧ zs.length * 8 ≤ 140737488351232 := by
    obtain ⟨fuel, hf⟩ := h1
    rcases open_ints Tryz.underlying74 Tryz.underlying3 (by kernel_rfl) hf with ⟨hcs, _⟩ | ⟨x, l, c, zs, hcs, _, hl, hm, hz, hx, hcell, hwz⟩
    · simp [Value.cells] at hcs
      obtain ⟨rfl, rfl, rfl⟩ := hcs
      exact ⟨[], Is.nil _ _, by simp⟩
    · simp [Value.cells] at hcs
      obtain ⟨rfl, rfl, rfl⟩ := hcs
      have hd : d1 = _ := (Prod.mk.inj hx).1
      have hzl : zs.length = cap1 := by simpa using hz
      have hlen : (zs.take len1).length = len1 := by rw [List.length_take]; omega
      refine ⟨zs.take len1, ⟨fun z hz => hwz z (List.mem_of_mem_take hz), .inr ⟨x, cap1, by rw [hlen], by omega, hm, fun j hj => ?_⟩⟩, ?_⟩
      · rw [hlen] at hj
        rw [hcell j (by omega)]
        simp [List.getD, hj]
      · rw [hd] at hsz
        have := sized_slice hsz (j := 1) (t := 74) (e := 3) rfl rfl Tryz.underlying74
        rw [bytes3] at this
        simp only [lits, List.length_map, List.length_take, List.length_drop, reachBytes] at this
        rw [hlen]
        omega
  clear hA0 hval0
  refine (storeAgain_walk _ z0 _ z1 W w0 g0 b0 w1 b1).mono fun e W' ⟨he, bel⟩ => ?_
  subst he
  exact ⟨_, rfl, _, _, _, [], _, [], hW', trodAll_mk1 (shut_bool Tryz.underlying4 _), (trodAll_cons_mk (Below.trod laidOut (by kernel_rfl) (of_decide_eq_true (by kernel_rfl)) k0 bel lt0) (trodAll_cons_mk (Below.trod laidOut (by kernel_rfl) (of_decide_eq_true (by kernel_rfl)) k1 bel lt1) trodAll_mk0)), rfl, bel.frame _, fun h => by cases h⟩

theorem over : Rows.storeAgainRow.holds Tryz.pinned (OpenSpec.ofChange Rows.storeAgainSpec) :=
  OpenClaim.holds_of_wide 7 Tryz.f7 rfl rfl rfl rfl rfl rfl rfl ⟨rfl, rfl, rfl, rfl, rfl⟩ rfl rfl rfl rfl rfl (by kernel_rfl) Tryz.func7 (by kernel_rfl)
    (of_decide_eq_true (by kernel_rfl)) (by unfold Func.isWrapper; first | (rw [if_pos (by decide +kernel)]; kernel_rfl) | (rw [if_neg (by decide +kernel)]; exact ⟨rfl, rfl⟩))
    (fun os started H enc _ => lifted os started H enc)
end storeAgainFrame

/-- The statement. -/
theorem storeAgain_holds : Rows.StoreAgainSaid := storeAgainFrame.over
#print axioms storeAgain_holds
end Go.Proofs.YthmecljkackmbaaGreat
