/- Proved: of sections in a file that is cut anywhere those ahead of the cut are found whole, and a section that is written again behind a power cut gives the same file (OrphanTorn). For every list of sections and all four numbers; no conditions of my own. -/
import Derived.Test.YtkpnkknolobioaaG29
import Derived.Test.YtkpnkknolobioaaRows
import Derived.ProofKit
import Derived.OpenShut
import Derived.ShutString
import Derived.ChangeOld
import Derived.Below
import Derived.SizedLaws
import Derived.Test.YtkpnkknolobioaaG28
/- OrphanTorn: the walk. -/
namespace Go.Proofs.Ytkpnkknolobioaa
open Go.RowKit
set_option linter.unusedVariables false

set_option maxRecDepth 20000 in
set_option maxHeartbeats 16000000 in
theorem orphanTorn_w (v : Value) (l : List Sw) (cut fz k t : Int) (w : World) (h : IsSe w v l) (hf : FitSe l) (hl : l.length ≤ 140737488355328) (ic : I64 cut) (if' : I64 fz) (it : I64 t) :
    Calls Try.prog 5 #[v, .int .i64 cut, .int .i64 fz, .int .i64 k, .int .i64 t] w fun E w' => E = .returned (.bool true) ∧ Below w.heap.size w w' := by
  obtain ⟨ao, cap, hv, _, _⟩ := h.shape
  have HI := hide h
  have HF := hide hf
  rw [hv] at HI
  subst hv
  clear h hf
  go_enter Try.func5, Try.ntmps5
  go_wp2_with fail
  refine (lives19_any w).mono ?_
  rintro E w1 ⟨rfl, bel1⟩
  have B1 := hide bel1
  by_cases h40 : 40 < l.length
  · have q1 : (40 : Int) < l.length := by omega
    clear h40
    go_wp2
    go_ret
    exact ⟨rfl, B1.out⟩
  have q1 : ¬ (40 : Int) < l.length := by omega
  by_cases hk : k < 0
  · go_wp2
    go_ret
    exact ⟨rfl, B1.out⟩
  by_cases ht : t < 0
  · go_wp2
    go_ret
    exact ⟨rfl, B1.out⟩
  have SEC : Hid (∀ i, i < l.length → ∃ b off, ao = some ⟨b, off, none⟩ ∧ ∃ x xa xk, l[i]? = some x ∧ x.v = .slice xa x.rs.length xk ∧ Hid (∀ W, Below w1.heap.size w1 W → (W.cell? ⟨b, off + i * 3, none⟩ = some (.int .i64 x.e) ∧ W.cell? ⟨b, off + i * 3 + 1, none⟩ = some (.int .i64 x.f) ∧ W.cell? ⟨b, off + i * 3 + 2, none⟩ = some (.slice xa x.rs.length xk)) ∧ IsC W (.slice xa x.rs.length xk) x.rs)) := hide fun i hi => by
    obtain ⟨b, off, cap2, hv2, _, _, hb, hcell⟩ := HI.out.full (by omega)
    simp only [Value.slice.injEq, true_and] at hv2
    obtain ⟨x, hx⟩ : ∃ x, l[i]? = some x := ⟨l[i], List.getElem?_eq_getElem hi⟩
    have hc := (HI.out.2 x (List.mem_of_getElem? hx)).1
    obtain ⟨xa, xk, hxv, _, _⟩ := hc.1.shape
    obtain ⟨d0, d1, d2⟩ := hcell i x hx
    rw [hxv] at d2 hc
    refine ⟨b, off, hv2.1, x, xa, xk, hx, hxv, hide fun W hW => ?_⟩
    have hW0 : Below w.heap.size w W := bel1.trans (hW.mono bel1.size)
    exact ⟨⟨(hW0.cell (p := ⟨b, off + i * 3, none⟩) hb).trans d0, (hW0.cell (p := ⟨b, off + i * 3 + 1, none⟩) hb).trans d1, (hW0.cell (p := ⟨b, off + i * 3 + 2, none⟩) hb).trans d2⟩, hc.below hW0⟩
  clear bel1
  go_wp2
  go_loopw [11, 12, 13, 14] (fun bv ev lv iv wr => ∃ (i nb : Nat) (ba : Option Addr) (bk : Nat), i ≤ l.length ∧ iv = .int .i64 i ∧ bv = .slice ba nb bk ∧ Hid (nb = (Orp.secs (sws (l.take i))).length) ∧ lv = .int .i64 (Orp.lstS 0 (sws (l.take i))) ∧ Hid (TI w1 wr l i (.slice ba nb bk) ev)) (fun _ _ _ iv _ => l.length - (intOf iv).toNat)
  case atStart => exact ⟨0, 0, none, 0, by omega, rfl, rfl, hide (by simp [sws, Orp.secs]), by simp [sws, Orp.lstS], hide ⟨by simpa [sws, Orp.secs] using Own.nil _ _ _ _, by simpa [enS] using Own.nil _ _ _ _, Below.refl _ _, by simp [sws, Orp.Ris], fun x hx => by simp at hx⟩⟩
  case round =>
    obtain ⟨i, nb, ba, bk, hi, rfl, rfl, HNB, rfl, T⟩ := hrel
    have BR := hide (B1.out.trans (T.out.bel.mono B1.out.size))
    by_cases hlt : i < l.length
    · obtain ⟨b, off, hao, x, xa, xk, hx, hxv, CE⟩ := SEC.out i hlt
      obtain ⟨⟨d0, d1, d2⟩, hic⟩ := CE.out wr T.out.bel
      have hlt' : (i : Int) < l.length := by omega
      have hi0 : (0 : Int) ≤ (i : Int) := by omega
      obtain ⟨ff, fl⟩ := HF.out x (List.mem_of_getElem? hx)
      have SM := hide (osmall_any x.e x.f _ x.rs wr hic (by omega) ff)
      unfold cmv at SM
      obtain ⟨la, hla⟩ : ∃ z, Orp.lstS 0 (sws (l.take i)) = z := ⟨_, rfl⟩
      rw [hla]
      have HLA := hide hla
      have HX := hide hx
      have HFF := hide ff
      subst hao
      clear hx hic hla hxv ff
      go_wp2_with fail
      refine SM.out.mono ?_
      rintro E w2 ⟨rfl, bel2⟩
      have T2 := hide (T.out.below bel2)
      have BR2 := hide (BR.out.trans (bel2.mono BR.out.size))
      clear SM T BR bel2 d0 d1 d2
      obtain ⟨⟨d0, d1, d2⟩, hic⟩ := CE.out w2 T2.out.bel
      cases hsm : smO x.rs with
      | false =>
        clear hsm
        go_wp2
        go_ret
        exact ⟨rfl, BR2.out⟩
      | true =>
        obtain ⟨_, hx40⟩ := smO_yes hsm
        clear hsm
        by_cases hle : x.e ≤ la
        · go_wp2
          go_ret
          exact ⟨rfl, BR2.out⟩
        have EN := hide (poenc_any x.e x.f _ x.rs w2 hic HFF.out (by omega))
        unfold cmv at EN
        obtain ⟨ck, hck⟩ : ∃ z, Orp.chk x.s = z := ⟨_, rfl⟩
        have hck' : Orp.chk ⟨x.e, x.f, cvs x.rs⟩ = ck := hck
        rw [hck'] at EN
        have HCK := hide hck
        clear hck hck' hic
        go_wp2_with fail
        refine EN.out.mono ?_
        rintro E w3 ⟨vx, rfl, ownx, bel3⟩
        have T3 := hide (T2.out.below bel3)
        have BR3 := hide (BR2.out.trans (bel3.mono BR2.out.size))
        obtain ⟨⟨k0, k1, k2⟩, _⟩ := CE.out w3 T3.out.bel
        clear EN T2 BR2 d0 d1 d2
        by_cases hc0 : ck = 0
        · subst hc0
          rw [show Orp.out ⟨x.e, x.f, cvs x.rs⟩ = Orp.sec x.s from Orp.out_ok HCK.out] at ownx
          have hsl : (Orp.sec x.s).length ≤ 17330 := by
            have := Orp.sec_le HCK.out
            rw [show x.s.cs = cvs x.rs from rfl, cvs_many] at this
            omega
          have hsb := T3.out.small (by omega)
          have hsum : ((Orp.secs (sws (l.take i))).length + (Orp.sec x.s).length) * 1 ≤ 150000000000000 := by omega
          have NX := hide (secs_next HX.out)
          have OX := hide ownx.is
          have TB := hide T3.out.b
          have s3 := T3.out.bel.size
          have HSL := hide hsl
          clear ownx bel3 hsl
          generalize hzz : Orp.secs (sws (l.take i)) = zz at *
          have HZZ := hide hzz
          clear hzz
          go_wp2_with (at_builtin; refine wpList_append_is rfl (.tmp 71) (.tmp 72) 25 rfl .u8 5 w1.heap.size 1 Try.underlying25 Try.info5 (by decide) _ _ rfl TB.out _ _ rfl OX.out hsum s3 ?_)
          intro v8 w8 own8 bel8 gr8
          rw [← NX.out] at own8
          obtain ⟨n8, hn8⟩ : ∃ n, (Orp.secs (sws (l.take (i + 1)))).length = n := ⟨_, rfl⟩
          have hn8b : n8 ≤ 1000000 := by
            rw [← hn8, NX.out, List.length_append]
            have := HSL.out
            omega
          obtain ⟨a8, k8, hv8, _, _⟩ := own8.is.shape
          rw [hn8] at hv8
          have HN8 := hide hn8
          have OE8 := T3.out.e.kept gr8 (own_unlike T3.out.e T3.out.b (by decide))
          have BL8 := T3.out.bel.trans bel8
          have W := wf_i64 (z := (n8 : Int)) (by omega) (by omega)
          obtain ⟨w9, hw9, sz9, bel9, own9⟩ := own_step .i64 3 w8 #[.int .i64 n8] 1 [(n8 : Int)] rfl rfl (by simp [maxLen]) (by simpa using W)
          have OB9 := hide (own8.below bel9)
          have OE9 := hide (OE8.below bel9)
          have BL9 := hide (BL8.trans (bel9.mono BL8.size))
          have RIS := hide T3.out.ris
          have SML := hide T3.out.sm
          have I9 := hide own9.is
          have EN9 := hide (enS_next l i)
          have s9 := BL9.out.size
          have len9 : ((enS l i).length + [(n8 : Int)].length) * 8 ≤ 150000000000000 := by rw [enS_len]; simp; omega
          rw [hv8] at OB9
          subst hv8
          clear own8 bel8 gr8 hn8 OE8 BL8 bel9 own9 T3 TB OX NX hsum hsb k0 k1 k2 s3
          go_wp2_with (at_builtin; refine wpList_append_is rfl (.tmp 74) (.tmp 77) 52 rfl .i64 3 w1.heap.size 8 Try.underlying52 Try.info3 (by decide) _ (enS l i) rfl OE9.out _ [(n8 : Int)] rfl I9.out len9 s9 ?_)
          intro va wa owna bela gra
          rw [show enS l i ++ [(n8 : Int)] = enS l (i + 1) by rw [EN9.out, HN8.out]] at owna
          have OBa := OB9.out.kept gra (own_unlike OB9.out OE9.out (by decide))
          have TA : Hid (TI w1 wa l (i + 1) (.slice a8 n8 k8) va) := hide ⟨OBa, owna, BL9.out.trans bela, ris_next HX.out RIS.out HCK.out (by rw [HLA.out]; omega), by
            rw [takeS_next HX.out]
            intro y hy
            rcases List.mem_append.1 hy with hy | hy
            · exact SML.out y hy
            · rw [List.mem_singleton.1 hy]; exact hx40⟩
          have LX := hide (lst_next HX.out)
          clear owna bela gra OBa OB9 OE9 BL9 I9 RIS SML EN9 len9 s9
          go_wp2
          go_roundw
          case rel => exact ⟨i + 1, n8, a8, k8, by omega, by go_num, rfl, hide HN8.out.symm, by rw [LX.out], TA⟩
          case measure => simp [intOf]; omega
        · have hcb : (ck != 0) = true := by simp [hc0]
          clear ownx
          go_wp2
          go_ret
          exact ⟨rfl, BR3.out⟩
    · obtain rfl : i = l.length := by omega
      have hlt' : ¬ (l.length : Int) < l.length := by omega
      have hall : l.take l.length = l := List.take_length
      have hnb := HNB.out
      have hsb := T.out.small (by omega)
      have RIS := hide T.out.ris
      have SML := hide T.out.sm
      have TB := hide T.out.b
      have TE := hide T.out.e
      have TBL := hide T.out.bel
      rw [hall] at hnb hsb RIS SML TB
      have HNL := hide hnb
      have e5 : IntKind.i64.wrap ((nb : Int) + 1) = (nb : Int) + 1 := wrap_i64_small _ (by omega) (by omega)
      have C3 := hide (pick_any cut ((nb : Int) + 1) wr (by omega) (by omega) ic.1 (by have := ic.2; omega))
      obtain ⟨la, hla⟩ : ∃ z, Orp.lstS 0 (sws (l.take l.length)) = z := ⟨_, rfl⟩
      rw [hla]
      clear T HNB hall hla hnb
      go_wp2_with fail
      refine C3.out.mono ?_
      rintro E w3 ⟨⟨p, hp, rfl⟩, hww⟩
      obtain rfl := hww
      have hpn : p ≤ nb := by omega
      clear C3 hp
      go_wp2
      go_loopw [18, 19] (fun nv gv wx => ∃ (n g : Nat), n ≤ l.length ∧ nv = .int .i64 n ∧ gv = .int .i64 g ∧ Hid (g = (Orp.secs (sws (l.take n))).length ∧ g ≤ p) ∧ wr = wx) (fun nv _ _ => l.length - (intOf nv).toNat)
      case atStart => exact ⟨0, 0, by omega, rfl, rfl, hide ⟨by simp [sws, Orp.secs], Nat.zero_le _⟩, rfl⟩
      case round =>
        obtain ⟨n, g, hn, rfl, rfl, HP, hww⟩ := hrel
        obtain rfl := hww
        by_cases hnl : n < l.length
        · have hnl' : (n : Int) < l.length := by omega
          have le := enS_len l l.length
          obtain ⟨be, oe, ce, hve, _, _, _, hce⟩ := TE.out.is.full (by rw [le]; omega)
          rw [le] at hve
          have e6 := hce n (by rw [le]; exact hnl)
          rw [enS_at _ _ _ hnl] at e6
          have hn0 : (0 : Int) ≤ (n : Int) := by omega
          obtain ⟨cn, hcn⟩ : ∃ z, (Orp.secs (sws (l.take (n + 1)))).length = z := ⟨_, rfl⟩
          rw [hcn] at e6
          have HCN := hide hcn
          subst hve
          clear hce le hcn
          by_cases hle : cn ≤ p
          · have hle' : (cn : Int) ≤ p := by omega
            go_wp2
            go_roundw
            case rel => exact ⟨n + 1, cn, by omega, by go_num, rfl, hide ⟨HCN.out.symm, hle⟩, by first | trivial | rfl⟩
            case measure => simp [intOf]; omega
          · have hle' : ¬ (cn : Int) ≤ p := by omega
            have HK : Hid (n < l.length → p < (Orp.secs (sws (l.take (n + 1)))).length) := hide fun _ => by rw [HCN.out]; omega
            obtain ⟨vs, hvs, isl⟩ := TB.out.is.slice_h Try.elemB Try.sizeE p (by rw [← HNL.out]; exact hpn)
            have htk : ∀ j, (sws l).take j = sws (l.take j) := fun j => by unfold sws; rw [List.map_take]
            have SCn : Hid (Orp.Sn 0 ((Orp.secs (sws l)).take p) (sws (l.take n))) := hide (by
              have := Orp.sn_cut (l := sws l) (a := 0) (k := p) (n := n) RIS.out (by rw [sws_len]; exact hn) (by rw [htk]; have := HP.out; omega) (fun h => by rw [htk]; exact HK.out (by rw [sws_len] at h; exact h)) (by rw [← HNL.out]; exact hpn)
              rwa [htk] at this)
            have C4 := hide (poscan_any vs _ wr isl (by rw [List.length_take]; omega))
            have hvs' : ∀ wx, (Instr.slice 25 (.slice ba nb bk) none (some (.int .i64 p)) none).run Try.prog wx = .ok vs wx := hvs
            clear isl hvs htk
            go_wp2_with fail
            refine C4.out.mono ?_
            rintro E w4 ⟨v4, m, n4, rfl, H4⟩
            have hm : sws m = sws (l.take n) := Orp.sn_one H4.out.2.2.2.1 SCn.out
            have hn4 : n4 = g := by rw [H4.out.2.2.1, hm, HP.out.1]
            have bel4 := H4.out.2.2.2.2
            have B4 := hide (TBL.out.trans (bel4.mono TBL.out.size))
            have B04 := hide (B1.out.trans (B4.out.mono B1.out.size))
            have hI4 := HI.out.below B04.out
            obtain ⟨vt, hvt, rowt⟩ := hI4.1.slice_h Try.elemSe Try.sizeSe n (by rw [swc_len]; exact hn)
            have hIt := hI4.take rowt
            have TB4 := hide (TB.out.below bel4)
            have hvt' : ∀ wx, (Instr.slice 41 (.slice ao l.length cap) none (some (.int .i64 n)) none).run Try.prog wx = .ok vt wx := hvt
            have SS := hide (sameSe_yes v4 vt m (l.take n) w4 H4.out.1.is hIt H4.out.2.1 (fun x hx => HF.out x (List.mem_of_mem_take hx)) (by
              have h1 : m.length = (l.take n).length := by rw [← sws_len m, hm, sws_len]
              rw [List.length_take] at h1
              omega) hm)
            subst hn4
            clear C4 H4 hm SCn hvs' bel4 hI4 hvt rowt hIt HP HK
            go_wp2_with fail
            refine SS.out.mono ?_
            rintro E w5 ⟨rfl, bel5⟩
            have B5 := hide (B4.out.trans (bel5.mono B4.out.size))
            have B05 := hide (B04.out.trans (bel5.mono B04.out.size))
            have TB5 := hide (TB4.out.below bel5)
            clear SS B4 B04 TB4 bel5 hvt'
            by_cases hz : l.length = 0
            · have hz' : ((l.length : Int) == 0) = true := by simp [hz]
              clear hz
              go_wp2
              go_ret
              exact ⟨rfl, B05.out⟩
            · have hz' : ((l.length : Int) == 0) = false := by rw [beq_eq_false_iff_ne]; omega
              obtain ⟨j, hj⟩ : ∃ j, l.length = j + 1 := ⟨l.length - 1, by omega⟩
              obtain ⟨b, off, hao, x, xa, xk, hx, hxv, CE⟩ := SEC.out j (by omega)
              obtain ⟨⟨d0, d1, d2⟩, hic⟩ := CE.out w5 B5.out
              have g2 : IntKind.i64.wrap ((l.length : Int) - 1) = (j : Int) := by rw [wrap64s _ (by omega) (by omega)]; omega
              have g3 : (j : Int) < (l.length : Int) := by omega
              have g4 : (0 : Int) ≤ (j : Int) := by omega
              have hxm := List.mem_of_getElem? hx
              have hsp : Orp.secs (sws l) = Orp.secs (sws (l.take j)) ++ Orp.sec x.s := by
                have := secs_next hx
                rwa [List.take_of_length_le (by omega)] at this
              have hck : Orp.chk x.s = 0 := Orp.ris_all RIS.out x.s (by unfold sws; exact List.mem_map_of_mem hxm)
              have TBB := TB5.out.is
              rw [hsp] at TBB
              have AG := hide (again_any x.e x.f _ x.rs (.slice ba nb bk) (Orp.secs (sws (l.take j))) fz k t w5 hic (HF.out x hxm).1 (SML.out x hxm) hck TBB (by
                have h1 : (Orp.secs (sws l)).length = (Orp.secs (sws (l.take j))).length + (Orp.sec x.s).length := by rw [hsp, List.length_append]
                omega) if' it (by omega) (by omega))
              subst hao
              clear hz hic hx hxm hsp hck TBB CE hj hxv
              go_wp2_with fail
              refine AG.out.mono ?_
              rintro E w6 ⟨rfl, bel6⟩
              have B6 := hide (B05.out.trans (bel6.mono B05.out.size))
              clear AG bel6
              go_wp2
              go_ret
              exact ⟨rfl, B6.out⟩
        · have hnl' : ¬ (n : Int) < l.length := by omega
          have HK : Hid (n < l.length → p < (Orp.secs (sws (l.take (n + 1)))).length) := hide fun h => absurd h hnl
          obtain ⟨vs, hvs, isl⟩ := TB.out.is.slice_h Try.elemB Try.sizeE p (by rw [← HNL.out]; exact hpn)
          have htk : ∀ j, (sws l).take j = sws (l.take j) := fun j => by unfold sws; rw [List.map_take]
          have SCn : Hid (Orp.Sn 0 ((Orp.secs (sws l)).take p) (sws (l.take n))) := hide (by
            have := Orp.sn_cut (l := sws l) (a := 0) (k := p) (n := n) RIS.out (by rw [sws_len]; exact hn) (by rw [htk]; have := HP.out; omega) (fun h => by rw [htk]; exact HK.out (by rw [sws_len] at h; exact h)) (by rw [← HNL.out]; exact hpn)
            rwa [htk] at this)
          have C4 := hide (poscan_any vs _ wr isl (by rw [List.length_take]; omega))
          have hvs' : ∀ wx, (Instr.slice 25 (.slice ba nb bk) none (some (.int .i64 p)) none).run Try.prog wx = .ok vs wx := hvs
          clear isl hvs htk
          go_wp2_with fail
          refine C4.out.mono ?_
          rintro E w4 ⟨v4, m, n4, rfl, H4⟩
          have hm : sws m = sws (l.take n) := Orp.sn_one H4.out.2.2.2.1 SCn.out
          have hn4 : n4 = g := by rw [H4.out.2.2.1, hm, HP.out.1]
          have bel4 := H4.out.2.2.2.2
          have B4 := hide (TBL.out.trans (bel4.mono TBL.out.size))
          have B04 := hide (B1.out.trans (B4.out.mono B1.out.size))
          have hI4 := HI.out.below B04.out
          obtain ⟨vt, hvt, rowt⟩ := hI4.1.slice_h Try.elemSe Try.sizeSe n (by rw [swc_len]; exact hn)
          have hIt := hI4.take rowt
          have TB4 := hide (TB.out.below bel4)
          have hvt' : ∀ wx, (Instr.slice 41 (.slice ao l.length cap) none (some (.int .i64 n)) none).run Try.prog wx = .ok vt wx := hvt
          have SS := hide (sameSe_yes v4 vt m (l.take n) w4 H4.out.1.is hIt H4.out.2.1 (fun x hx => HF.out x (List.mem_of_mem_take hx)) (by
            have h1 : m.length = (l.take n).length := by rw [← sws_len m, hm, sws_len]
            rw [List.length_take] at h1
            omega) hm)
          subst hn4
          clear C4 H4 hm SCn hvs' bel4 hI4 hvt rowt hIt HP HK
          go_wp2_with fail
          refine SS.out.mono ?_
          rintro E w5 ⟨rfl, bel5⟩
          have B5 := hide (B4.out.trans (bel5.mono B4.out.size))
          have B05 := hide (B04.out.trans (bel5.mono B04.out.size))
          have TB5 := hide (TB4.out.below bel5)
          clear SS B4 B04 TB4 bel5 hvt'
          by_cases hz : l.length = 0
          · have hz' : ((l.length : Int) == 0) = true := by simp [hz]
            clear hz
            go_wp2
            go_ret
            exact ⟨rfl, B05.out⟩
          · have hz' : ((l.length : Int) == 0) = false := by rw [beq_eq_false_iff_ne]; omega
            obtain ⟨j, hj⟩ : ∃ j, l.length = j + 1 := ⟨l.length - 1, by omega⟩
            obtain ⟨b, off, hao, x, xa, xk, hx, hxv, CE⟩ := SEC.out j (by omega)
            obtain ⟨⟨d0, d1, d2⟩, hic⟩ := CE.out w5 B5.out
            have g2 : IntKind.i64.wrap ((l.length : Int) - 1) = (j : Int) := by rw [wrap64s _ (by omega) (by omega)]; omega
            have g3 : (j : Int) < (l.length : Int) := by omega
            have g4 : (0 : Int) ≤ (j : Int) := by omega
            have hxm := List.mem_of_getElem? hx
            have hsp : Orp.secs (sws l) = Orp.secs (sws (l.take j)) ++ Orp.sec x.s := by
              have := secs_next hx
              rwa [List.take_of_length_le (by omega)] at this
            have hck : Orp.chk x.s = 0 := Orp.ris_all RIS.out x.s (by unfold sws; exact List.mem_map_of_mem hxm)
            have TBB := TB5.out.is
            rw [hsp] at TBB
            have AG := hide (again_any x.e x.f _ x.rs (.slice ba nb bk) (Orp.secs (sws (l.take j))) fz k t w5 hic (HF.out x hxm).1 (SML.out x hxm) hck TBB (by
              have h1 : (Orp.secs (sws l)).length = (Orp.secs (sws (l.take j))).length + (Orp.sec x.s).length := by rw [hsp, List.length_append]
              omega) if' it (by omega) (by omega))
            subst hao
            clear hz hic hx hxm hsp hck TBB CE hj hxv
            go_wp2_with fail
            refine AG.out.mono ?_
            rintro E w6 ⟨rfl, bel6⟩
            have B6 := hide (B05.out.trans (bel6.mono B05.out.size))
            clear AG bel6
            go_wp2
            go_ret
            exact ⟨rfl, B6.out⟩

theorem orphanTorn_walk (v : Value) (l : List Sw) (cut fz k t : Int) (w : World) (h : IsSe w v l) (hf : FitSe l) (hl : l.length * 40 ≤ 140737488351232) (hc : (Lit.int .i64 cut).wf = true) (hz : (Lit.int .i64 fz).wf = true) (hk : (Lit.int .i64 k).wf = true) (ht : (Lit.int .i64 t).wf = true) :
    Calls Try.prog 5 #[v, .int .i64 cut, .int .i64 fz, .int .i64 k, .int .i64 t] w fun E w' => E = .returned (.bool true) ∧ Below w.heap.size w w' := by
  have I : ∀ {z : Int}, (Lit.int .i64 z).wf = true → I64 z := fun {z} h => by
    have := range_i64 (zs := [z]) (by simpa using h) 0
    simpa [I64] using this
  exact orphanTorn_w v l cut fz k t w h hf (by omega) (I hc) (I hz) (I ht)

end Go.Proofs.Ytkpnkknolobioaa

/- Proved: OrphanTorn -/
namespace Go.Proofs.Ytkpnkknolobioaa
open Go.ChangeShapes Go.WideShapes Go.ChangeAt Go.RowKit
open Go.ChangeMaps (open_string shut_string)
set_option linter.unusedVariables false

namespace orphanTornFrame
theorem own : ownKnob Try.prog.godebug = none := by kernel_rfl
theorem laidOut : laidOutB Try.prog = true := by kernel_rfl
theorem cells24 : Try.prog.cellsOf 24 = 3 := by kernel_rfl
theorem bytes24 : Try.prog.bytesOf 24 = 40 := by kernel_rfl
theorem cells32 : Try.prog.cellsOf 32 = 3 := by kernel_rfl
theorem bytes32 : Try.prog.bytesOf 32 = 40 := by kernel_rfl
theorem cells66 : Try.prog.cellsOf 66 = 3 := by kernel_rfl
theorem bytes66 : Try.prog.bytesOf 66 = 40 := by kernel_rfl

set_option maxRecDepth 100000 in
theorem lifted (os : Os) (started : os.Started) (H : Type) (enc : TypeId × Value → H) :
    ReturnsInHanded {} Try.checked os 5 .any (Rows.orphanTornSpec.pre6 enc Try.prog Try.f5 Rows.orphanTornRow.domain false) (Rows.orphanTornSpec.post enc Try.prog Try.f5 false true false false) := by
  refine returnsInHanded_of_change_sized (C := Try.checked) own started (by kernel_rfl) Try.func5
    (ChangeSpec.witness6 (enc := enc) (C := Try.checked) false ⟨#[], #[.slice none 0 0, .int .i64 0, .int .i64 0, .int .i64 0, .int .i64 0], []⟩ 8 (by kernel_rfl) (by kernel_rfl) (by kernel_rfl) (by kernel_rfl)) ?_
  intro W base args ds gs before hval0 hW hcnd hsz0 _
  have hsz : (DataW.weightsEach Try.prog (Try.f5.params.toList ++ Rows.orphanTornSpec.plain.varTypes Try.prog) (ds ++ gs)).all (· ≤ reachBytes) = true := hsz0
  clear hsz0
  have hval : ∀ (j : Nat) t v, Try.f5.params[j]? = some t → args[j]? = some v → Value.okWide Try.prog W .any base t v := hval0
  have hW' := hW
  obtain ⟨p, q, hA0, hV, rfl, hfz, hnd⟩ := hW
  have hA : DataW.TrodAll enc Try.prog W 0 (fun _ => true) true Try.f5.params.toList args.toList ds p := hA0
  rw [Try.params5] at hA hval hsz
  obtain ⟨v0, vs0, d0, ds0, p0, q0, hargs, rfl, rfl, h0, r0⟩ := trodAll_cons hA
  obtain ⟨v1, vs1, d1, ds1, p1, q1, rfl, rfl, rfl, h1, r1⟩ := trodAll_cons r0
  obtain ⟨v2, vs2, d2, ds2, p2, q2, rfl, rfl, rfl, h2, r2⟩ := trodAll_cons r1
  obtain ⟨v3, vs3, d3, ds3, p3, q3, rfl, rfl, rfl, h3, r3⟩ := trodAll_cons r2
  obtain ⟨v4, vs4, d4, ds4, p4, q4, rfl, rfl, rfl, h4, r4⟩ := trodAll_cons r3
  obtain ⟨rfl, rfl, rfl⟩ := trodAll_nil r4
  obtain rfl : args = #[v0, v1, v2, v3, v4] := by cases args; simp_all
  obtain ⟨rfl, rfl⟩ := trodVars_none hV
  obtain ⟨a0, len0, cap0, rfl⟩ := okWide_slice Try.underlying41 (hval 0 41 v0 rfl rfl)
  have k0 := h0
  have lt0 : ∀ x ∈ p0, x.block < W.heap.size := by obtain ⟨m, hm⟩ := k0; exact DataW.trod_lt m _ _ _ hm
  obtain ⟨z0, w0, g0, b0⟩ : ∃ r, IsSe W (.slice a0 len0 cap0) r ∧ FitSe r ∧ r.length * 40 ≤ 140737488351232 := by
    obtain ⟨fuel, hf⟩ := h0
    have hf' : DataW.trod enc Try.prog W 0 (fun _ => true) true fuel 41 [.slice a0 len0 cap0] = some (d0, p0) := by simpa [Value.cells] using hf
    obtain ⟨r, hr, hd⟩ := open_secs Try.underlying41 Try.underlying24 (by kernel_rfl) cells24 Try.underlying3 Try.underlying3 Try.underlying22 Try.underlying32 (by kernel_rfl) cells32 Try.underlying3 Try.underlying3 Try.underlying30 Try.underlying66 (by kernel_rfl) cells66 Try.underlying4 Try.underlying9 Try.underlying9 hf'
    rcases hd with ⟨_, rfl⟩ | ⟨es, sp, hd, hln, hes⟩
    · exact ⟨[], hr, fun c hc => by simp at hc, by simp⟩
    · simp only at hd
      rw [hd] at hsz
      obtain ⟨h1, h2⟩ := sized_secs hsz (j := 0) (t := 41) (e := 24) rfl rfl hln hes Try.underlying41 Try.underlying24 bytes24 Try.underlying22 Try.underlying32 bytes32 Try.underlying30 Try.underlying66 bytes66
      exact ⟨r, hr, h1, h2⟩
  obtain ⟨a1, rfl, rfl, rfl, w1⟩ := open_int Try.underlying3 (hval 1 3 v1 rfl rfl) h1
  obtain ⟨a2, rfl, rfl, rfl, w2⟩ := open_int Try.underlying3 (hval 2 3 v2 rfl rfl) h2
  obtain ⟨a3, rfl, rfl, rfl, w3⟩ := open_int Try.underlying3 (hval 3 3 v3 rfl rfl) h3
  obtain ⟨a4, rfl, rfl, rfl, w4⟩ := open_int Try.underlying3 (hval 4 3 v4 rfl rfl) h4
  clear hA0 hval0
  refine (orphanTorn_walk _ z0 a1 a2 a3 a4 W w0 g0 b0 w1 w2 w3 w4).mono fun e W' ⟨he, bel⟩ => ?_
  subst he
  exact ⟨_, rfl, _, _, _, [], _, [], hW', trodAll_mk1 (shut_bool Try.underlying4 _), (trodAll_cons_mk (Below.trod laidOut (by kernel_rfl) (of_decide_eq_true (by kernel_rfl)) k0 bel lt0) (trodAll_cons_mk (shut_int Try.underlying3 w1) (trodAll_cons_mk (shut_int Try.underlying3 w2) (trodAll_cons_mk (shut_int Try.underlying3 w3) (trodAll_cons_mk (shut_int Try.underlying3 w4) trodAll_mk0))))), rfl, bel.frame _, fun h => by cases h⟩

theorem over : Rows.orphanTornRow.holds Try.pinned (OpenSpec.ofChange Rows.orphanTornSpec) :=
  OpenClaim.holds_of_wide 5 Try.f5 rfl rfl rfl rfl rfl rfl rfl ⟨rfl, rfl, rfl, rfl, rfl⟩ rfl rfl rfl rfl rfl (by kernel_rfl) Try.func5 (by kernel_rfl)
    (of_decide_eq_true (by kernel_rfl)) (by unfold Func.isWrapper; first | (rw [if_pos (by decide +kernel)]; kernel_rfl) | (rw [if_neg (by decide +kernel)]; exact ⟨rfl, rfl⟩))
    (fun os started H enc _ => lifted os started H enc)
end orphanTornFrame

/-- The statement. -/
theorem orphanTorn_holds : Rows.OrphanTornSaid := orphanTornFrame.over
#print axioms orphanTorn_holds
end Go.Proofs.Ytkpnkknolobioaa
