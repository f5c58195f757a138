/- The walk of LinkOnce. -/
import Derived.Test.YtadfbmglbaebiaaLo2
import Derived.Deep.CutRange
import Derived.Deep.RegionHeld3
namespace Go.Proofs.Ytadfbmglbaebiaa
open Go.RowKit Go.Shelf
set_option linter.unusedVariables false

set_option maxRecDepth 100000 in
set_option maxHeartbeats 8000000 in
theorem linkOnce_walk (v : Value) (l : List Av) (w : World) (h : IsLA w v l) (hl : l.length * 40 ≤ 140737488351232) :
    Calls Try.prog 6 #[v] w fun E w' => E = .returned (.bool true) ∧ Below w.heap.size w w' := by
  obtain ⟨ao, cap, hv, hcap, hcm⟩ := h.1.shape
  have H := hide h
  subst hv
  clear h
  go_enter Try.func6, Try.ntmps6
  go_wp2_with fail
  refine (lives_any w).mono ?_
  rintro E w1 ⟨rfl, b1⟩
  have H1 := hide (H.out.below b1)
  go_wp2_with fail
  refine (lsmall_any _ l w1 H1.out (by omega)).mono ?_
  rintro E w1' ⟨rfl, rfl⟩
  cases hsm : smallL l
  · go_wp2
    go_ret
    exact ⟨rfl, b1⟩
  · obtain ⟨hl12, hb40⟩ := smallL_len hsm
    have HB40 := hide hb40
    clear hsm hb40
    go_wp2_with fail
    refine (lnew_any w1).mono ?_
    rintro E w2 ⟨rfl, K2, b2⟩
    obtain ⟨w3, hw3, sz3, b3, row3⟩ := rows_step letc 3 letc_len 31 w2 #[.int .i64 0, .int .i64 0, .slice none 0 0] 1 [⟨0, 0, .slice none 0 0, []⟩] rfl rfl (by simp [maxLen])
    obtain ⟨w4, hw4, sz4, b4, row4⟩ := rows_step boolc 1 boolc_len 4 w3 #[.bool true] 1 [true] rfl rfl (by simp [maxLen])
    have z2 := b2.size
    have I0 : Hid (OI w1.heap.size w1 0 (.slice (some ⟨w2.heap.size, 0, none⟩) 1 1) (.slice (some ⟨w3.heap.size, 0, none⟩) 1 1) w4) := hide (by
      refine ⟨Lm.new, [⟨0, 0, .slice none 0 0, []⟩], [true], w2.heap.size, ⟨_, (K2.below b3).below b4, fun g hg => by omega, (row3.agree fun b hb => b4.block b (row3.lt b hb).2).rebase (by omega), row4.rebase (by omega), fun b hb e => ?_, fun b hb e => ?_, fun e => ?_, (b2.trans (b3.mono (by omega))).trans (b4.mono (by omega)), rfl, fun r hr => ?_⟩, or_start, by simp [Lm.new]⟩
      · have h1 := (row3.lt b hb).1
        have h2 := K2.lt _ rfl
        omega
      · have h1 := (row4.lt b hb).1
        have h2 := K2.lt _ rfl
        omega
      · have h2 := K2.lt _ rfl
        omega
      · simp at hr
        subst hr
        exact Is.nil _ _)
    clear K2 row3 row4 b3 b4 sz3 sz4 b2 z2
    go_wp2
    go_loopw [4, 5, 6] (fun vS vO iv wr => ∃ k : Nat, k ≤ l.length ∧ iv = .int .i64 k ∧ Hid (OI w1.heap.size w1 k vS vO wr)) (fun _ _ iv _ => l.length - (intOf iv).toNat)
    case atStart => exact ⟨0, by omega, rfl, I0⟩
    case round =>
      obtain ⟨k, hk, rfl, HI⟩ := hrel
      obtain ⟨st, ss, os, A0, hM0, hR, hlast⟩ := HI.out
      have hbel : Below w1.heap.size w1 wr := by obtain ⟨F, h⟩ := hM0; exact h.bel
      by_cases hlt : k < l.length
      · obtain ⟨b, off, cq, hvx, _, _, hB, hcell⟩ := H1.out.full (by omega)
        simp only [Value.slice.injEq, true_and] at hvx
        obtain ⟨rfl, rfl⟩ := hvx
        obtain ⟨a, ha⟩ : ∃ a, l[k]? = some a := ⟨l[k], by rw [List.getElem?_eq_getElem]⟩
        obtain ⟨c0, c1, c2⟩ := hcell k a ha
        have e0 := (hbel.cell (p := ⟨b, off + k * 3, none⟩) hB).trans c0
        have e1 := (hbel.cell (p := ⟨b, off + k * 3 + 1, none⟩) hB).trans c1
        have e2 := (hbel.cell (p := ⟨b, off + k * 3 + 2, none⟩) hB).trans c2
        have hok := H1.out.2 a (List.mem_of_getElem? ha)
        have hb40 := HB40.out a (List.mem_of_getElem? ha)
        obtain ⟨av, ac, hav, _, _⟩ := hok.1.shape
        obtain ⟨V, hV, hV2, szV, belV, bV, x0, x1, x2⟩ := new_three wr 41 (.int .i64 0) (.int .i64 0) (.slice none 0 0) (.int .i64 a.k) (.int .i64 a.n) a.v
        have hMV := hM0.beside belV
        have isV := (hok.1.below hbel).below belV
        have PA := hide (pickx_any a.k 4 V (by omega) (by omega) hok.2.1)
        obtain ⟨q0, q1⟩ := pk_lt a.k 4 (by omega)
        generalize pk a.k 4 = q at PA q0 q1
        have hAV : wr.heap.size < V.heap.size := by omega
        have hk0 : (0 : Int) ≤ (k : Int) := by omega
        have hlt' : (k : Int) < l.length := by omega
        have HA := hide bV
        have HM := hide hMV
        have HR := hide hR
        have HIS := hide isV
        have HOK := hide hok
        have HAV := hide hav
        have hlS : ss.length = st.last + 1 := by have := hR.len; rwa [List.length_map] at this
        have hlO : os.length = ss.length := by rw [hlS]; exact hR.lno
        obtain ⟨gS, kS, hvS, hkS, hmS⟩ : ∃ g c, u4 = .slice (some ⟨g, 0, none⟩) ss.length c ∧ ss.length ≤ c ∧ c ≤ maxLen := by
          obtain ⟨F, hF⟩ := hMV
          obtain ⟨g, c, h1, h2, h3, _⟩ := hF.sent.form (by omega)
          exact ⟨g, c, h1, h2, h3⟩
        obtain ⟨gO, kO, hvO, hkO, hmO⟩ : ∃ g c, u5 = .slice (some ⟨g, 0, none⟩) ss.length c ∧ ss.length ≤ c ∧ c ≤ maxLen := by
          obtain ⟨F, hF⟩ := hMV
          obtain ⟨g, c, h1, h2, h3, _⟩ := hF.over.form (by omega)
          rw [hlO] at h1 h2
          exact ⟨g, c, h1, h2, h3⟩
        have HLO := hide hlO
        have HLS := hide hlS
        have hl2 : ss.length ≤ 2000 := by omega
        have hss : (ss.map Lw.l).length = ss.length := List.length_map ..
        have HSS := hide hss
        subst hvS hvO
        rw [hav] at e2 hV hV2 x2
        clear hlO hlS hss hR hMV hM0 hok hav ha hcell isV bV c0 c1 c2
        go_wp2_with fail
        refine PA.out.mono ?_
        rintro E V' ⟨rfl, rfl⟩
        rcases (show q = 0 ∨ q = 1 ∨ q = 2 ∨ q = 3 by omega) with rfl | rfl | rfl | rfl
        · obtain ⟨⟨⟨y1, y2⟩, y3⟩, hy⟩ : ∃ y, Lm.send st a.n a.bs = y := ⟨_, rfl⟩
          have OS := or_send HR.out a.n hb40
          have hly := Lm.last_send st a.n a.bs
          rw [hy] at OS hly
          have SX : Hid (Calls Try.prog 10 #[.pointer (some ⟨w1.heap.size, 0, none⟩), .int .i64 a.n, .slice av a.bs.length ac] V fun E w' => E = .returned (.tuple #[.int .i64 y1, .int .i64 y2]) ∧ OM w1.heap.size w1.heap.size wr.heap.size w1 w' y3 (.slice (some ⟨gS, 0, none⟩) ss.length kS) (.slice (some ⟨gO, 0, none⟩) ss.length kO) ss os ∧ w'.heap[wr.heap.size]? = V.heap[wr.heap.size]?) := hide (by
            obtain ⟨F, hF⟩ := HM.out
            have := send_any w1.heap.size F V st a.n a.v a.bs hF.lk HIS.out hb40 (by omega)
            rw [HAV.out, hy] at this
            refine this.mono ?_
            rintro E w' ⟨rfl, s⟩
            exact ⟨rfl, hF.step hAV s⟩)
          simp only at OS hly
          clear hy
          go_wp2_with fail
          refine SX.out.mono ?_
          rintro E w5 ⟨rfl, M5, A5⟩
          have A5' := A5.trans HA.out
          rw [HAV.out] at A5'
          have d1 := blk_cell A5' 1 rfl
          have d2 := blk_cell A5' 2 rfl
          have HM5 := hide M5
          clear A5 A5' M5 SX x0 x1 x2 e0 e1 e2
          rcases OS with ⟨rfl, hy1, hOR⟩ | ⟨hne, rfl⟩
          · rw [HSS.out] at hy1 hOR
            subst hy1
            obtain ⟨w6, hw6, sz6, b6, row6⟩ := rows_step letc 3 letc_len 31 w5 #[.int .i64 (ss.length : Int), .int .i64 a.n, .slice av a.bs.length ac] 1 [⟨(ss.length : Int), a.n, .slice av a.bs.length ac, a.bs⟩] rfl rfl (by simp [maxLen])
            have X6 := hide (fun ty => HM5.out.runS b6 row6.row (by have := HOK.out.1; rw [HAV.out] at this; exact this) hl2 ty)
            have HOR := hide hOR
            clear row6 b6 sz6 hOR
            go_wp2_with (at_builtin; refine wpList_append_at rfl (.tmp 85) (.tmp 92) 45 rfl (.slice (some ⟨gS, 0, none⟩) ss.length kS) (.slice (some ⟨w5.heap.size, 0, none⟩) 1 1) rfl rfl X6.out ?_)
            intro v7 w7 M7 a7 n7 c7 e7
            subst e7
            obtain ⟨w8, hw8, sz8, b8, row8⟩ := rows_step boolc 1 boolc_len 4 w7 #[.bool false] 1 [false] rfl rfl (by simp [maxLen])
            have X8 := hide (fun ty => M7.runO b8 row8.row (by have := HLO.out; omega) ty)
            clear row8 b8 sz8 M7 X6 d1 d2
            go_wp2_with (at_builtin; refine wpList_append_at rfl (.tmp 94) (.tmp 95) 59 rfl (.slice (some ⟨gO, 0, none⟩) ss.length kO) (.slice (some ⟨w7.heap.size, 0, none⟩) 1 1) rfl rfl X8.out ?_)
            intro v9 w9 M9 a9 n9 c9 e9
            subst e9
            have J : Hid (OI w1.heap.size w1 (k + 1) (.slice a7 n7 c7) (.slice a9 n9 c9) w9) := hide ⟨_, _, _, _, M9, by rw [List.map_append]; exact HOR.out, by omega⟩
            clear M9 X8
            as_aux_lemma =>
              go_wp2
              go_roundw
              case rel => exact ⟨k + 1, by omega, by go_num, J⟩
              case measure => simp [intOf]; omega
          · have J : Hid (OI w1.heap.size w1 (k + 1) (.slice (some ⟨gS, 0, none⟩) ss.length kS) (.slice (some ⟨gO, 0, none⟩) ss.length kO) w5) := hide ⟨_, _, _, _, HM5.out, HR.out, by omega⟩
            as_aux_lemma =>
              go_wp2
              go_roundw
              case rel => exact ⟨k + 1, by omega, by go_num, J⟩
              case measure => simp [intOf]; omega
        · obtain ⟨⟨⟨⟨xn, xt, xb⟩, y2⟩, y3⟩, hy⟩ : ∃ y, Lm.del st a.n = y := ⟨_, rfl⟩
          have OD := or_dl HR.out a.n
          have hly := Lm.last_del st a.n
          rw [hy] at OD hly
          have DX : Hid (Calls Try.prog 12 #[.pointer (some ⟨w1.heap.size, 0, none⟩), .int .i64 a.n] V fun E w' => ∃ vx, E = .returned (.tuple #[.agg #[.int .i64 xn, .int .i64 xt, vx], .int .i64 y2]) ∧ (OM w1.heap.size w1.heap.size wr.heap.size w1 w' y3 (.slice (some ⟨gS, 0, none⟩) ss.length kS) (.slice (some ⟨gO, 0, none⟩) ss.length kO) ss os ∧ w'.heap[wr.heap.size]? = V.heap[wr.heap.size]?) ∧ Is .u8 w' vx xb) := hide (by
            obtain ⟨F, hF⟩ := HM.out
            have := deliver_any w1.heap.size F V st a.n hF.lk HR.out.ok.len
            rw [hy] at this
            refine this.mono ?_
            rintro E w' ⟨vx, rfl, s, by1⟩
            exact ⟨vx, rfl, hF.step hAV s, by1.1⟩)
          simp only at OD hly
          clear hy
          go_wp2_with fail
          refine DX.out.mono ?_
          rintro E w5 ⟨vx, rfl, ⟨M5, A5⟩, isx⟩
          have isx0 := isx
          obtain ⟨ax, nx, cx, hvx⟩ := isx.form
          subst hvx
          obtain ⟨U, hU, hU2, szU, belU, bU, u0, u1, u2⟩ := new_three w5 31 (.int .i64 0) (.int .i64 0) (.slice none 0 0) (.int .i64 xn) (.int .i64 xt) (.slice ax nx cx)
          have hA5 : wr.heap.size < w5.heap.size := blk_lt (A5.trans HA.out)
          have AU := (belU.block wr.heap.size hA5).trans (A5.trans HA.out)
          have d1 := blk_cell AU 1 rfl
          have HM5 := hide (M5.below belU)
          have HAU := hide AU
          have isU := hide (isx0.below belU)
          have HXU := hide bU
          clear A5 M5 DX x0 x1 x2 e0 e1 e2 isx isx0 AU bU belU szU
          rcases OD with ⟨rfl, ⟨i1, i2, i3⟩, hsx, hx4, hOR⟩ | ⟨rfl, hno, rfl⟩
          · obtain ⟨m, hm⟩ : ∃ m : Nat, a.n = m := ⟨a.n.toNat, by omega⟩
            rw [hm] at d1 i1 i2 i3 hsx hOR
            rw [HSS.out] at i2
            simp only [Int.toNat_natCast] at i3 hsx hOR
            obtain ⟨r, hr, hrl⟩ : ∃ r, ss[m]? = some r ∧ r.l = ⟨xn, xt, xb⟩ := by
              rw [List.getElem?_map, Option.map_eq_some_iff] at hsx
              exact hsx
            obtain ⟨vs, hsl, rowv⟩ : ∃ vs, (∀ wx, (Instr.slice 45 (.slice (some ⟨gS, 0, none⟩) ss.length kS) (some (.int .i64 m)) (some (.int .i64 ((m : Int) + 1))) none).run Try.prog wx = .ok vs wx) ∧ RowG letc U vs [r] := by
              obtain ⟨F, hF⟩ := HM5.out
              exact hF.sent.slice_one letc_len rfl Try.elemL Try.sizeL hr
            have isr : Is .u8 U r.v r.bs := by
              obtain ⟨F, hF⟩ := HM5.out
              have := hF.byt r (List.mem_of_getElem? hr)
              rw [hF.hb] at *
              exact this.below hF.bel
            have g3 : U.cell? ⟨gO, m, none⟩ = some (.bool false) := by
              obtain ⟨F, hF⟩ := HM5.out
              simpa using hF.over.at boolc_len i3 (j := 0) rfl
            obtain ⟨U2, hU3, szU2, belU2, row2⟩ := rows_step letc 3 letc_len 31 U #[.int .i64 xn, .int .i64 xt, .slice ax nx cx] 1 [⟨xn, xt, .slice ax nx cx, xb⟩] rfl rfl (by simp [maxLen])
            have hAU : wr.heap.size < U.heap.size := blk_lt HAU.out
            have d1' := blk_cell ((belU2.block wr.heap.size hAU).trans HAU.out) 1 rfl
            rw [hm] at d1'
            have hx2 : Hid (∀ w', Below U.heap.size U w' → w'.cell? ⟨wr.heap.size, 1, none⟩ = some (.int .i64 m) ∧ w'.cell? ⟨w5.heap.size, 0, none⟩ = some (.int .i64 xn) ∧ w'.cell? ⟨w5.heap.size, 1, none⟩ = some (.int .i64 xt) ∧ w'.cell? ⟨w5.heap.size, 2, none⟩ = some (.slice ax nx cx)) := hide fun w' hb => by
              have q1 := blk_cell ((hb.block wr.heap.size hAU).trans HAU.out) 1 rfl
              rw [hm] at q1
              have q2 := (hb.block w5.heap.size (blk_lt HXU.out)).trans HXU.out
              exact ⟨q1, blk_cell q2 0 rfl, blk_cell q2 1 rfl, blk_cell q2 2 rfl⟩
            have FL : Hid (Calls Try.prog 19 #[.slice (some ⟨U.heap.size, 0, none⟩) 1 1, vs] U2.drew fun E w' => E = .returned (.bool true) ∧ Below U.heap.size U w' ∧ (w'.cell? ⟨wr.heap.size, 1, none⟩ = some (.int .i64 m) ∧ w'.cell? ⟨w5.heap.size, 0, none⟩ = some (.int .i64 xn) ∧ w'.cell? ⟨w5.heap.size, 1, none⟩ = some (.int .i64 xt) ∧ w'.cell? ⟨w5.heap.size, 2, none⟩ = some (.slice ax nx cx))) := hide (by
              have bd : Below U2.heap.size U2 U2.drew := below_drewN (Below.refl _ _) 1
              have b0 : Below U.heap.size U U2.drew := belU2.trans (bd.mono (by omega))
              refine (flights_any _ vs [⟨xn, xt, .slice ax nx cx, xb⟩] [r] U2.drew ⟨row2.row.below bd, fun x hx => by simp at hx; subst hx; exact isU.out.below b0⟩ ⟨rowv.below b0, fun x hx => by simp at hx; subst hx; exact isr.below b0⟩ (by simp [Lw.l] at hrl ⊢; exact ⟨hrl.1.symm, hrl.2.1.symm, hrl.2.2.symm⟩) (fun x hx => by simp at hx; subst hx; exact hx4) (by simp)).mono ?_
              rintro E w' ⟨rfl, q, rfl⟩
              exact ⟨rfl, below_drewN b0 q, hx2.out _ (below_drewN b0 q)⟩)
            obtain ⟨j1, j2, j3, j4⟩ := hx2.out U2 belU2
            have SO : Hid (∀ W, Below U.heap.size U W → ∃ W', W.setCell ⟨gO, m, none⟩ (.bool true) = W' ∧ W.cell? ⟨gO, m, none⟩ = some (.bool false) ∧ W.frozen? ⟨gO, m, none⟩ = false ∧ W.cell? ⟨wr.heap.size, 1, none⟩ = some (.int .i64 m) ∧ OI w1.heap.size w1 (k + 1) (.slice (some ⟨gS, 0, none⟩) ss.length kS) (.slice (some ⟨gO, 0, none⟩) ss.length kO) W') := hide (fun W hW => by
              have M9 := HM5.out.below hW
              rw [← HLO.out] at M9
              obtain ⟨M10, c10, f10⟩ := M9.setO i3
              rw [HLO.out] at M10
              have hc := blk_cell ((hW.block wr.heap.size hAU).trans HAU.out) 1 rfl
              rw [hm] at hc
              exact ⟨_, rfl, c10, f10, hc, _, _, _, _, M10, hOR, by omega⟩)
            have h1' : (1 : Int) ≤ (m : Int) := i1
            have hmc : (m : Int) + 1 ≤ ss.length := by omega
            have hw1 : IntKind.i64.wrap ((m : Int) + 1) = (m : Int) + 1 := wrap64s _ (by omega) (by omega)
            clear hsx hOR row2 rowv isr hr hrl belU2 szU2 i3 hm
            clear hx2
            go_wp2_with fail
            go_region_held3 (fun w' => w'.cell? ⟨wr.heap.size, 1, none⟩ = some (.int .i64 m) ∧ w'.cell? ⟨w5.heap.size, 0, none⟩ = some (.int .i64 xn) ∧ w'.cell? ⟨w5.heap.size, 1, none⟩ = some (.int .i64 xt) ∧ w'.cell? ⟨w5.heap.size, 2, none⟩ = some (.slice ax nx cx)) (first | exact ⟨d1, u0, u1, u2⟩ | exact ⟨j1, j2, j3, j4⟩ | exact Y9.out | go_keep)
              (first
              | (go_at_call 19; refine FL.out.mono ?_; rintro E w9 ⟨rfl, b9, Y9'⟩; have Y9 := hide Y9'; clear Y9'))
            obtain ⟨W', hW', k1, k2, k3, J⟩ := SO.out _ b9
            have J := hide J
            clear FL SO d1 u0 u1 u2 j1 j2 j3 j4 Y9 b9 hsl d1'
            as_aux_lemma =>
              go_wp2
              go_roundw
              case rel => exact ⟨k + 1, by omega, by go_num, J⟩
              case measure => simp [intOf]; omega
          · have hll : os.length = (ss.map Lw.l).length := by rw [HSS.out]; exact HLO.out
            have J : Hid (OI w1.heap.size w1 (k + 1) (.slice (some ⟨gS, 0, none⟩) ss.length kS) (.slice (some ⟨gO, 0, none⟩) ss.length kO) U) := hide ⟨_, _, _, _, HM5.out, HR.out, by omega⟩
            have hgO := fun (m : Nat) (x : Bool) (hx : os[m]? = some x) => (show U.cell? ⟨gO, m, none⟩ = some (.bool x) by
              obtain ⟨F, hF⟩ := HM5.out
              simpa using hF.over.at boolc_len hx (j := 0) rfl)
            have HGO := hide hgO
            have hs1 : 1 ≤ ss.length := by have := HLS.out; omega
            clear hgO
            rcases not_inF hno hll with h1 | h1 | ⟨m, hm, h1, h2, h3⟩
            · clear hno hll
              as_aux_lemma =>
                go_wp2
                go_roundw
                case rel => exact ⟨k + 1, by omega, by go_num, J⟩
                case measure => simp [intOf]; omega
            · rw [HSS.out] at h1
              have h2 : (1 : Int) ≤ a.n := by omega
              clear hno hll
              as_aux_lemma =>
                go_wp2
                go_roundw
                case rel => exact ⟨k + 1, by omega, by go_num, J⟩
                case measure => simp [intOf]; omega
            · rw [HSS.out] at h2
              have g3 := HGO.out m _ h3
              rw [hm] at d1
              have h1' : (1 : Int) ≤ (m : Int) := by omega
              have h2' : (m : Int) < ss.length := by omega
              clear hno hll h3 hm
              as_aux_lemma =>
                go_wp2
                go_roundw
                case rel => exact ⟨k + 1, by omega, by go_num, J⟩
                case measure => simp [intOf]; omega
        · obtain ⟨⟨⟨y1, y2⟩, y3⟩, hy⟩ : ∃ y, Lm.twi st a.n = y := ⟨_, rfl⟩
          have OT := or_twi HR.out a.n
          have hly := Lm.last_twi st a.n
          rw [hy] at OT hly
          have TX : Hid (Calls Try.prog 11 #[.pointer (some ⟨w1.heap.size, 0, none⟩), .int .i64 a.n] V fun E w' => E = .returned (.tuple #[.int .i64 y1, .int .i64 y2]) ∧ (OM w1.heap.size w1.heap.size wr.heap.size w1 w' y3 (.slice (some ⟨gS, 0, none⟩) ss.length kS) (.slice (some ⟨gO, 0, none⟩) ss.length kO) ss os ∧ w'.heap[wr.heap.size]? = V.heap[wr.heap.size]?)) := hide (by
            obtain ⟨F, hF⟩ := HM.out
            have := twice_any w1.heap.size F V st a.n hF.lk HR.out.ok (by omega)
            rw [hy] at this
            refine this.mono ?_
            rintro E w' ⟨rfl, s⟩
            exact ⟨rfl, hF.step hAV s⟩)
          simp only at OT hly
          clear hy
          go_wp2_with fail
          refine TX.out.mono ?_
          rintro E w5 ⟨rfl, M5, A5⟩
          have AU := A5.trans HA.out
          have d1 := blk_cell AU 1 rfl
          have HM5 := hide M5
          clear A5 M5 TX x0 x1 x2 e0 e1 e2 AU
          rcases OT with ⟨rfl, hy1, ⟨i1, i2, i3⟩, x, hsx, hOR⟩ | ⟨hne, rfl⟩
          · obtain ⟨m, hm⟩ : ∃ m : Nat, a.n = m := ⟨a.n.toNat, by omega⟩
            rw [hm] at d1 i1 i2 i3 hsx
            rw [HSS.out] at i2 hy1 hOR
            subst hy1
            simp only [Int.toNat_natCast] at i3 hsx
            obtain ⟨r, hr, hrl⟩ : ∃ r, ss[m]? = some r ∧ r.l = x := by
              rw [List.getElem?_map, Option.map_eq_some_iff] at hsx
              exact hsx
            obtain ⟨g3, s1, s2, isr⟩ : w5.cell? ⟨gO, m, none⟩ = some (.bool false) ∧ w5.cell? ⟨gS, m * 3 + 1, none⟩ = some (.int .i64 r.to) ∧ w5.cell? ⟨gS, m * 3 + 2, none⟩ = some r.v ∧ Is .u8 w1 r.v r.bs := by
              obtain ⟨F, hF⟩ := HM5.out
              exact ⟨by simpa using hF.over.at boolc_len i3 (j := 0) rfl, hF.sent.at letc_len hr (j := 1) rfl, hF.sent.at letc_len hr (j := 2) rfl, hF.byt r (List.mem_of_getElem? hr)⟩
            obtain ⟨ar, nr, cr, hrv⟩ := isr.form
            rw [hrv] at s2 isr
            obtain ⟨w6, hw6, sz6, b6, row6⟩ := rows_step letc 3 letc_len 31 w5 #[.int .i64 (ss.length : Int), .int .i64 r.to, .slice ar nr cr] 1 [⟨(ss.length : Int), r.to, .slice ar nr cr, r.bs⟩] rfl rfl (by simp [maxLen])
            have bd : Below w5.heap.size w5 w6.drew := b6.trans ((below_drewN (Below.refl w6.heap.size w6) 1).mono (by omega))
            have X6 := hide (fun ty => HM5.out.runS bd (row6.row.below (below_drewN (Below.refl w6.heap.size w6) 1)) isr hl2 ty)
            have HOR : Hid (OR y3 ((ss ++ [(⟨(ss.length : Int), r.to, .slice ar nr cr, r.bs⟩ : Lw)]).map Lw.l) (os ++ [false])) := hide (by
              rw [List.map_append]
              have e : x = r.l := hrl.symm
              rw [e] at hOR
              exact hOR)
            have h1' : (1 : Int) ≤ (m : Int) := i1
            clear row6 b6 sz6 hOR bd hsx hr hrl i3 hm isr hrv
            go_upto_region 30 with fail
            go_cut [4] from 24 to 197 (fun v4 wx => ∃ a7 n7 c7, v4 = .slice a7 n7 c7 ∧ OM w1.heap.size w1.heap.size wr.heap.size w1 wx y3 (.slice a7 n7 c7) (.slice (some ⟨gO, 0, none⟩) ss.length kO) (ss ++ [(⟨(ss.length : Int), r.to, .slice ar nr cr, r.bs⟩ : Lw)]) os)
            case first =>
              go_region_law (refine step_append_at rfl (.tmp 131) (.tmp 146) 45 rfl (.slice (some ⟨gS, 0, none⟩) ss.length kS) (.slice (some ⟨w5.heap.size, 0, none⟩) 1 1) (by first | (simp [Act.eval]; done) | (simp [Act.eval, Act.put]; done)) (by first | (simp [Act.eval]; done) | (simp [Act.eval, Act.put]; done)) X6.out ?_; rintro v7 w7 ⟨M7, a7, n7, c7, rfl⟩; have M7 := hide M7)
              all_goals
                go_wp2_with fail
                go_meet
                exact ⟨_, _, _, rfl, M7.out⟩
            case rest =>
              obtain ⟨a7, n7, c7, rfl, M7⟩ := hcut
              obtain ⟨w7, hw7⟩ : ∃ w7, wc = w7 := ⟨_, rfl⟩
              rw [hw7] at M7 ⊢
              obtain ⟨w8, hw8, sz8, b8, row8⟩ := rows_step boolc 1 boolc_len 4 w7 #[.bool false] 1 [false] rfl rfl (by simp [maxLen])
              have X8 := hide (fun ty => M7.runO b8 row8.row (by have := HLO.out; omega) ty)
              clear row8 b8 sz8 M7 X6 d1 s1 s2 g3 hw7 hw6
              go_wp2_with (at_builtin; refine wpList_append_at rfl (.tmp 148) (.tmp 149) 59 rfl (.slice (some ⟨gO, 0, none⟩) ss.length kO) (.slice (some ⟨w7.heap.size, 0, none⟩) 1 1) rfl rfl X8.out ?_)
              intro v9 w9 M9 a9 n9 c9 e9
              subst e9
              have J : Hid (OI w1.heap.size w1 (k + 1) (.slice a7 n7 c7) (.slice a9 n9 c9) w9) := hide ⟨_, _, _, _, M9, HOR.out, by omega⟩
              clear M9 X8
              as_aux_lemma =>
                go_wp2
                go_roundw
                case rel => exact ⟨k + 1, by omega, by go_num, J⟩
                case measure => simp [intOf]; omega
          · have J : Hid (OI w1.heap.size w1 (k + 1) (.slice (some ⟨gS, 0, none⟩) ss.length kS) (.slice (some ⟨gO, 0, none⟩) ss.length kO) w5) := hide ⟨_, _, _, _, HM5.out, HR.out, by omega⟩
            as_aux_lemma =>
              go_wp2
              go_roundw
              case rel => exact ⟨k + 1, by omega, by go_num, J⟩
              case measure => simp [intOf]; omega
        · obtain ⟨⟨⟨x, y2⟩, y3⟩, hy⟩ : ∃ y, Lm.del st a.n = y := ⟨_, rfl⟩
          have OD := or_dl HR.out a.n
          have hly := Lm.last_del st a.n
          rw [hy] at OD hly
          have DX : Hid (Calls Try.prog 13 #[.pointer (some ⟨w1.heap.size, 0, none⟩), .int .i64 a.n] V fun E w' => E = .returned (.int .i64 y2) ∧ (OM w1.heap.size w1.heap.size wr.heap.size w1 w' y3 (.slice (some ⟨gS, 0, none⟩) ss.length kS) (.slice (some ⟨gO, 0, none⟩) ss.length kO) ss os ∧ w'.heap[wr.heap.size]? = V.heap[wr.heap.size]?)) := hide (by
            obtain ⟨F, hF⟩ := HM.out
            have := drop_any w1.heap.size F V st a.n hF.lk HR.out.ok.len
            rw [hy] at this
            refine this.mono ?_
            rintro E w' ⟨rfl, s⟩
            exact ⟨rfl, hF.step hAV s⟩)
          simp only at OD hly
          clear hy
          go_wp2_with fail
          refine DX.out.mono ?_
          rintro E w5 ⟨rfl, M5, A5⟩
          have AU := A5.trans HA.out
          have d1 := blk_cell AU 1 rfl
          have HM5 := hide M5
          have HAU := hide AU
          clear A5 M5 DX x0 x1 x2 e0 e1 e2 AU
          rcases OD with ⟨rfl, ⟨i1, i2, i3⟩, hsx, hx4, hOR⟩ | ⟨rfl, hno, rfl⟩
          · obtain ⟨m, hm⟩ : ∃ m : Nat, a.n = m := ⟨a.n.toNat, by omega⟩
            rw [hm] at d1 i1 i2 i3 hOR
            rw [HSS.out] at i2
            simp only [Int.toNat_natCast] at i3 hOR
            obtain ⟨W', hW', k1, k2, J⟩ : ∃ W', w5.setCell ⟨gO, m, none⟩ (.bool true) = W' ∧ w5.cell? ⟨gO, m, none⟩ = some (.bool false) ∧ w5.frozen? ⟨gO, m, none⟩ = false ∧ OI w1.heap.size w1 (k + 1) (.slice (some ⟨gS, 0, none⟩) ss.length kS) (.slice (some ⟨gO, 0, none⟩) ss.length kO) W' := by
              have M9 := HM5.out
              rw [← HLO.out] at M9
              obtain ⟨M10, c10, f10⟩ := M9.setO i3
              rw [HLO.out] at M10
              exact ⟨_, rfl, c10, f10, _, _, _, _, M10, hOR, by omega⟩
            have J := hide J
            have h1' : (1 : Int) ≤ (m : Int) := i1
            clear hsx hOR i3 hm
            as_aux_lemma =>
              go_wp2
              go_roundw
              case rel => exact ⟨k + 1, by omega, by go_num, J⟩
              case measure => simp [intOf]; omega
          · have hll : os.length = (ss.map Lw.l).length := by rw [HSS.out]; exact HLO.out
            have J : Hid (OI w1.heap.size w1 (k + 1) (.slice (some ⟨gS, 0, none⟩) ss.length kS) (.slice (some ⟨gO, 0, none⟩) ss.length kO) w5) := hide ⟨_, _, _, _, HM5.out, HR.out, by omega⟩
            have hgO := fun (m : Nat) (x : Bool) (hx : os[m]? = some x) => (show w5.cell? ⟨gO, m, none⟩ = some (.bool x) by
              obtain ⟨F, hF⟩ := HM5.out
              simpa using hF.over.at boolc_len hx (j := 0) rfl)
            have HGO := hide hgO
            have hs1 : 1 ≤ ss.length := by have := HLS.out; omega
            clear hgO
            rcases not_inF hno hll with h1 | h1 | ⟨m, hm, h1, h2, h3⟩
            · clear hno hll
              as_aux_lemma =>
                go_wp2
                go_roundw
                case rel => exact ⟨k + 1, by omega, by go_num, J⟩
                case measure => simp [intOf]; omega
            · rw [HSS.out] at h1
              have h2 : (1 : Int) ≤ a.n := by omega
              clear hno hll
              as_aux_lemma =>
                go_wp2
                go_roundw
                case rel => exact ⟨k + 1, by omega, by go_num, J⟩
                case measure => simp [intOf]; omega
            · rw [HSS.out] at h2
              have g3 := HGO.out m _ h3
              rw [hm] at d1
              have h1' : (1 : Int) ≤ (m : Int) := by omega
              have h2' : (m : Int) < ss.length := by omega
              clear hno hll h3 hm
              as_aux_lemma =>
                go_wp2
                go_roundw
                case rel => exact ⟨k + 1, by omega, by go_num, J⟩
                case measure => simp [intOf]; omega
      · have hlt' : ¬ (k : Int) < l.length := by omega
        have BE := hide (b1.trans (hbel.mono b1.size))
        clear HI hM0 hR hbel
        go_wp2
        go_ret
        exact ⟨rfl, BE.out⟩

end Go.Proofs.Ytadfbmglbaebiaa
