/- Proved: sections that are written one behind the other are all found again, with each of their commits (OrphanFile). For every list of sections and both numbers; no conditions of my own. -/
import Derived.Test.YtkpnkknolobioaaG29
import Derived.Test.YtkpnkknolobioaaRows
import Derived.ProofKit
import Derived.OpenShut
import Derived.ShutString
import Derived.ChangeOld
import Derived.Below
import Derived.SizedLaws
import Derived.Test.YtkpnkknolobioaaG28
/- OrphanFile: the walk. -/
namespace Go.Proofs.Ytkpnkknolobioaa
open Go.RowKit
set_option linter.unusedVariables false

set_option maxRecDepth 20000 in
set_option maxHeartbeats 16000000 in
theorem orphanFile_w (v : Value) (l : List Sw) (e n : Int) (w : World) (h : IsSe w v l) (hf : FitSe l) (hl : l.length ≤ 140737488355328) :
    Calls Try.prog 6 #[v, .int .i64 e, .int .i64 n] w fun E w' => E = .returned (.bool true) ∧ Below w.heap.size w w' := by
  obtain ⟨ao, cap, hv, _, _⟩ := h.shape
  have HI := hide h
  have HF := hide hf
  rw [hv] at HI
  subst hv
  clear h hf
  go_enter Try.func6, Try.ntmps6
  go_wp2_with fail
  refine (lives19_any w).mono ?_
  rintro E w1 ⟨rfl, bel1⟩
  have B1 := hide bel1
  by_cases h40 : 40 < l.length
  · have q1 : (40 : Int) < l.length := by omega
    clear h40
    go_wp2
    go_ret
    exact ⟨rfl, B1.out⟩
  have q1 : ¬ (40 : Int) < l.length := by omega
  have SEC : Hid (∀ i, i < l.length → ∃ b off, ao = some ⟨b, off, none⟩ ∧ ∃ x xa xk, l[i]? = some x ∧ Hid (∀ W, Below w1.heap.size w1 W → (W.cell? ⟨b, off + i * 3, none⟩ = some (.int .i64 x.e) ∧ W.cell? ⟨b, off + i * 3 + 1, none⟩ = some (.int .i64 x.f) ∧ W.cell? ⟨b, off + i * 3 + 2, none⟩ = some (.slice xa x.rs.length xk)) ∧ IsC W (.slice xa x.rs.length xk) x.rs)) := hide fun i hi => by
    obtain ⟨b, off, cap2, hv2, _, _, hb, hcell⟩ := HI.out.full (by omega)
    simp only [Value.slice.injEq, true_and] at hv2
    obtain ⟨x, hx⟩ : ∃ x, l[i]? = some x := ⟨l[i], List.getElem?_eq_getElem hi⟩
    have hc := (HI.out.2 x (List.mem_of_getElem? hx)).1
    obtain ⟨xa, xk, hxv, _, _⟩ := hc.1.shape
    obtain ⟨d0, d1, d2⟩ := hcell i x hx
    rw [hxv] at d2 hc
    refine ⟨b, off, hv2.1, x, xa, xk, hx, hide fun W hW => ?_⟩
    have hW0 : Below w.heap.size w W := bel1.trans (hW.mono bel1.size)
    exact ⟨⟨(hW0.cell (p := ⟨b, off + i * 3, none⟩) hb).trans d0, (hW0.cell (p := ⟨b, off + i * 3 + 1, none⟩) hb).trans d1, (hW0.cell (p := ⟨b, off + i * 3 + 2, none⟩) hb).trans d2⟩, hc.below hW0⟩
  clear bel1
  go_wp2_with fail
  refine (new_any w1).mono ?_
  rintro E w2 ⟨rfl, pk2, bel2⟩
  have F2 : Hid (FI w1 w2 w1.heap.size l 0 Dm.new) := hide ⟨⟨⟨_, pk2, fun g hg => by omega⟩, bel2⟩, by simp [Dm.new, sws, Orp.secs], rfl, rfl, rfl, big_new.mono (by omega) (by omega), by simp [sws, Orp.Ris], fun x hx => by simp at hx⟩
  clear pk2 bel2
  go_wp2
  go_loopw [8, 9, 10] (fun lv fv iv wr => ∃ (i : Nat) (st : Dm.Ds), i ≤ l.length ∧ iv = .int .i64 i ∧ lv = .int .i64 (Orp.lstS 0 (sws (l.take i))) ∧ fv = .bool (Orp.has (sws (l.take i)) e n) ∧ Hid (FI w1 wr w1.heap.size l i st)) (fun _ _ iv _ => l.length - (intOf iv).toNat)
  case atStart => exact ⟨0, _, by omega, rfl, by simp [sws, Orp.lstS], by simp [sws, Orp.has], F2⟩
  case round =>
    clear F2
    obtain ⟨i, st, hi, rfl, rfl, rfl, T⟩ := hrel
    have BR := hide (B1.out.trans (T.out.dk.bel.mono B1.out.size))
    by_cases hlt : i < l.length
    · obtain ⟨b, off, hao, x, xa, xk, hx, CE⟩ := SEC.out i hlt
      obtain ⟨⟨d0, d1, d2⟩, hic⟩ := CE.out wr T.out.dk.bel
      have hlt' : (i : Int) < l.length := by omega
      have hi0 : (0 : Int) ≤ (i : Int) := by omega
      obtain ⟨ff, fl⟩ := HF.out x (List.mem_of_getElem? hx)
      have SM := hide (osmall_any x.e x.f _ x.rs wr hic (by omega) ff)
      unfold cmv at SM
      obtain ⟨la, hla⟩ : ∃ z, Orp.lstS 0 (sws (l.take i)) = z := ⟨_, rfl⟩
      obtain ⟨fo, hfo⟩ : ∃ z, Orp.has (sws (l.take i)) e n = z := ⟨_, rfl⟩
      rw [hla, hfo]
      have HLA := hide hla
      have HFO := hide hfo
      have HX := hide hx
      have HFF := hide ff
      subst hao
      clear hx hic hla ff hfo
      go_wp2_with fail
      refine SM.out.mono ?_
      rintro E w3 ⟨rfl, bel3⟩
      have T3 := hide (T.out.below bel3)
      have BR3 := hide (BR.out.trans (bel3.mono BR.out.size))
      clear SM T BR bel3 d0 d1 d2
      obtain ⟨⟨d0, d1, d2⟩, hic⟩ := CE.out w3 T3.out.dk.bel
      cases hsm : smO x.rs with
      | false =>
        clear hsm
        go_wp2
        go_ret
        exact ⟨rfl, BR3.out⟩
      | true =>
        obtain ⟨_, hx40⟩ := smO_yes hsm
        clear hsm
        by_cases hle : x.e ≤ la
        · go_wp2
          go_ret
          exact ⟨rfl, BR3.out⟩
        have CK := hide (pochk_any x.e x.f _ x.rs w3 hic HFF.out (by omega))
        unfold cmv at CK
        obtain ⟨ck, hck⟩ : ∃ z, Orp.chk x.s = z := ⟨_, rfl⟩
        have hck' : Orp.chk ⟨x.e, x.f, cvs x.rs⟩ = ck := hck
        rw [hck'] at CK
        have HCK := hide hck
        clear hck hck' hic
        go_wp2_with fail
        refine CK.out.mono ?_
        rintro E w4 ⟨rfl, bel4⟩
        have T4 := hide (T3.out.below bel4)
        have BR4 := hide (BR3.out.trans (bel4.mono BR3.out.size))
        clear CK T3 BR3 bel4 d0 d1 d2
        by_cases hc0 : ck = 0
        · subst hc0
          obtain ⟨⟨d0, d1, d2⟩, _⟩ := CE.out w4 T4.out.dk.bel
          have DU : Hid (Calls Try.prog 31 #[.pointer (some ⟨w1.heap.size, 0, none⟩), .int .i64 3] w4.drew fun E w' => ∃ a m q, E = .returned (.slice a m q) ∧ (w'.cell? ⟨b, off + i * 3, none⟩ = some (.int .i64 x.e) ∧ w'.cell? ⟨b, off + i * 3 + 1, none⟩ = some (.int .i64 x.f) ∧ w'.cell? ⟨b, off + i * 3 + 2, none⟩ = some (.slice xa x.rs.length xk)) ∧ m ≤ 1000000 ∧ Hid (m = (Orp.secs (sws (l.take i))).length ∧ FI w1 w' w1.heap.size l i st)) := hide (by
            have TD := T4.out.below ((Below.refl _ _).drew)
            refine (TD.dur (by omega)).mono ?_
            rintro E w' ⟨vd, rfl, own, bel⟩
            obtain ⟨a, q, hv, _, _⟩ := own.is.shape
            have T5 := TD.below bel
            have := TD.small (by omega)
            exact ⟨a, _, q, by rw [hv], (CE.out w' T5.dk.bel).1, by omega, hide ⟨rfl, T5⟩⟩)
          have WRT : Hid (∀ W m, m = (Orp.secs (sws (l.take i))).length → FI w1 W w1.heap.size l i st → Calls Try.prog 30 #[.pointer (some ⟨w1.heap.size, 0, none⟩), .int .i64 m, .agg #[.int .i64 x.e, .int .i64 x.f, .slice xa x.rs.length xk]] W fun E w' => E = .returned (.int .i64 0) ∧ (w'.cell? ⟨b, off + i * 3, none⟩ = some (.int .i64 x.e) ∧ w'.cell? ⟨b, off + i * 3 + 1, none⟩ = some (.int .i64 x.f) ∧ w'.cell? ⟨b, off + i * 3 + 2, none⟩ = some (.slice xa x.rs.length xk)) ∧ ∃ st', Hid (FI w1 w' w1.heap.size l (i + 1) st')) := hide fun W m hm HFI => by
            refine (HFI.wr (by omega) HX.out HCK.out (by rw [HLA.out]; omega) hx40 (CE.out w1 (Below.refl _ _)).2 HFF.out hm).mono ?_
            rintro E w' ⟨rfl, st', F'⟩
            exact ⟨rfl, (CE.out w' F'.out.dk.bel).1, st', F'⟩
          clear T4
          go_wp2_with fail
          go_region_held3 (fun W => W.cell? ⟨b, off + i * 3, none⟩ = some (.int .i64 x.e) ∧ W.cell? ⟨b, off + i * 3 + 1, none⟩ = some (.int .i64 x.f) ∧ W.cell? ⟨b, off + i * 3 + 2, none⟩ = some (.slice xa x.rs.length xk)) (first | exact ⟨d0, d1, d2⟩ | exact ⟨y0, y1, y2⟩ | exact ⟨z0, z1, z2⟩ | go_keep)
            (first
            | (go_at_call 31; refine DU.out.mono ?_; rintro E w5 ⟨a5, m5, q5, rfl, ⟨y0, y1, y2⟩, hm5, H5⟩)
            | (go_at_call 30; refine (WRT.out _ _ H5.out.1 H5.out.2).mono ?_; rintro E w6 ⟨rfl, ⟨z0, z1, z2⟩, st6, F6⟩)
            | (go_at_call 32; refine F6.out.pend.mono ?_; rintro E w7 ⟨rfl, hw7⟩; obtain rfl := hw7))
          all_goals
            clear DU WRT d0 d1 d2 y0 y1 y2 z0 z1 z2 H5
            have NXH := hide (has_next HX.out e n)
            have SNI : Hid (Orp.Sn 0 (Orp.secs (sws (l.take (i + 1)))) (sws (l.take (i + 1)))) := hide (Orp.sn_self F6.out.ris)
            have COM : Hid (∀ k, k < x.rs.length → ∃ b2 off2, xa = some ⟨b2, off2, none⟩ ∧ ∃ c, x.rs[k]? = some c ∧ Hid (∀ W, Below w1.heap.size w1 W → W.cell? ⟨b2, off2 + k * 3, none⟩ = some (.int .i64 c.e) ∧ W.cell? ⟨b2, off2 + k * 3 + 1, none⟩ = some (.int .i64 c.n))) := hide fun k hk => by
              have hic := (CE.out w1 (Below.refl _ _)).2
              obtain ⟨b2, off2, cap2, hv2, _, _, hb2, hcell⟩ := hic.1.full (by omega)
              simp only [Value.slice.injEq, true_and] at hv2
              obtain ⟨c, hc⟩ : ∃ c, x.rs[k]? = some c := ⟨x.rs[k], List.getElem?_eq_getElem hk⟩
              obtain ⟨k0, k1, _⟩ := hcell k c hc
              exact ⟨b2, off2, hv2.1, c, hc, hide fun W hW => ⟨(hW.cell (p := ⟨b2, off2 + k * 3, none⟩) hb2).trans k0, (hW.cell (p := ⟨b2, off2 + k * 3 + 1, none⟩) hb2).trans k1⟩⟩
            go_wp2
            go_loopw [9, 11] (fun fv kv wq => ∃ k : Nat, k ≤ x.rs.length ∧ kv = .int .i64 k ∧ fv = .bool (fo || hasC (x.rs.take k) e n) ∧ Hid (FI w1 wq w1.heap.size l (i + 1) st6)) (fun _ kv _ => x.rs.length - (intOf kv).toNat)
            case atStart => exact ⟨0, by omega, rfl, by simp [hasC, cvs], F6⟩
            case round =>
              clear F6
              obtain ⟨k, hk, rfl, rfl, FK⟩ := hrel
              obtain ⟨⟨d0, d1, d2⟩, _⟩ := CE.out wr FK.out.dk.bel
              by_cases hkl : k < x.rs.length
              · obtain ⟨b2, off2, hxa, c, hc, CC⟩ := COM.out k hkl
                obtain ⟨c0, c1⟩ := CC.out wr FK.out.dk.bel
                have hkl' : (k : Int) < x.rs.length := by omega
                have hk0 : (0 : Int) ≤ (k : Int) := by omega
                have NC := hide (hasC_next hc e n)
                obtain ⟨hk1, hhk⟩ : ∃ z, hasC (x.rs.take k) e n = z := ⟨_, rfl⟩
                rw [hhk] at NC ⊢
                have HIN := hide (has_in HX.out hc)
                subst hxa
                clear hc hhk
                have DU : Hid (Calls Try.prog 31 #[.pointer (some ⟨w1.heap.size, 0, none⟩), .int .i64 3] wr.drew fun E w' => ∃ vd, E = .returned vd ∧ (w'.cell? ⟨b, off + i * 3 + 2, none⟩ = some (.slice (some ⟨b2, off2, none⟩) x.rs.length xk) ∧ w'.cell? ⟨b2, off2 + k * 3, none⟩ = some (.int .i64 c.e) ∧ w'.cell? ⟨b2, off2 + k * 3 + 1, none⟩ = some (.int .i64 c.n)) ∧ Hid (Is .u8 w' vd (Orp.secs (sws (l.take (i + 1)))) ∧ FI w1 w' w1.heap.size l (i + 1) st6)) := hide (by
                  have TD := FK.out.below ((Below.refl _ _).drew)
                  refine (TD.dur (by omega)).mono ?_
                  rintro E w' ⟨vd, rfl, own, bel⟩
                  have T5 := TD.below bel
                  exact ⟨vd, rfl, ⟨(CE.out w' T5.dk.bel).1.2.2, CC.out w' T5.dk.bel⟩, hide ⟨own.is, T5⟩⟩)
                have HAS : Hid (∀ W vd, Is .u8 W vd (Orp.secs (sws (l.take (i + 1)))) ∧ FI w1 W w1.heap.size l (i + 1) st6 → Calls Try.prog 11 #[vd, .int .i64 c.e, .int .i64 c.n] W fun E w' => E = .returned (.bool true) ∧ (w'.cell? ⟨b, off + i * 3 + 2, none⟩ = some (.slice (some ⟨b2, off2, none⟩) x.rs.length xk) ∧ w'.cell? ⟨b2, off2 + k * 3, none⟩ = some (.int .i64 c.e) ∧ w'.cell? ⟨b2, off2 + k * 3 + 1, none⟩ = some (.int .i64 c.n)) ∧ Hid (FI w1 w' w1.heap.size l (i + 1) st6)) := hide fun W vd hW => by
                  have := pohas_any vd _ c.e c.n W hW.1 (by have := hW.2.small (by omega); omega) _ SNI.out
                  rw [HIN.out] at this
                  refine this.mono ?_
                  rintro E w' ⟨rfl, bel⟩
                  have T5 := hW.2.below bel
                  exact ⟨rfl, ⟨(CE.out w' T5.dk.bel).1.2.2, CC.out w' T5.dk.bel⟩, hide T5⟩
                have FOK : Hid ((fo || hasC (x.rs.take (k + 1)) e n) = (fo || (hk1 || (c.e == e && c.n == n)))) := hide (by rw [NC.out])
                clear NC FK
                cases fo with
                | true =>
                  go_wp2_with fail
                  go_region_held3 (fun W => W.cell? ⟨b, off + i * 3 + 2, none⟩ = some (.slice (some ⟨b2, off2, none⟩) x.rs.length xk) ∧ W.cell? ⟨b2, off2 + k * 3, none⟩ = some (.int .i64 c.e) ∧ W.cell? ⟨b2, off2 + k * 3 + 1, none⟩ = some (.int .i64 c.n)) (first | exact ⟨d2, c0, c1⟩ | exact ⟨y0, y1, y2⟩ | exact ⟨z0, z1, z2⟩ | go_keep)
                    (first
                    | (go_at_call 31; refine DU.out.mono ?_; rintro E w8 ⟨vd, rfl, ⟨y0, y1, y2⟩, H8⟩)
                    | (go_at_call 11; refine (HAS.out _ _ H8.out).mono ?_; rintro E w9 ⟨rfl, ⟨z0, z1, z2⟩, F9⟩))
                  all_goals
                    clear DU HAS
                    go_wp2
                    go_roundw
                    case rel => exact ⟨k + 1, by omega, by go_num, by rw [FOK.out]; rfl, F9⟩
                    case measure => simp [intOf]; omega
                | false =>
                  cases hk1 with
                  | true =>
                    go_wp2_with fail
                    go_region_held3 (fun W => W.cell? ⟨b, off + i * 3 + 2, none⟩ = some (.slice (some ⟨b2, off2, none⟩) x.rs.length xk) ∧ W.cell? ⟨b2, off2 + k * 3, none⟩ = some (.int .i64 c.e) ∧ W.cell? ⟨b2, off2 + k * 3 + 1, none⟩ = some (.int .i64 c.n)) (first | exact ⟨d2, c0, c1⟩ | exact ⟨y0, y1, y2⟩ | exact ⟨z0, z1, z2⟩ | go_keep)
                      (first
                      | (go_at_call 31; refine DU.out.mono ?_; rintro E w8 ⟨vd, rfl, ⟨y0, y1, y2⟩, H8⟩)
                      | (go_at_call 11; refine (HAS.out _ _ H8.out).mono ?_; rintro E w9 ⟨rfl, ⟨z0, z1, z2⟩, F9⟩))
                    all_goals
                      clear DU HAS
                      go_wp2
                      go_roundw
                      case rel => exact ⟨k + 1, by omega, by go_num, by rw [FOK.out]; rfl, F9⟩
                      case measure => simp [intOf]; omega
                  | false =>
                    by_cases z1 : c.e = e
                    · have t1 : (c.e == e) = true := by simp [z1]
                      rw [t1] at FOK
                      by_cases z2 : c.n = n
                      · have t2 : (c.n == n) = true := by simp [z2]
                        rw [t2] at FOK
                        clear z1 z2
                        go_wp2_with fail
                        go_region_held3 (fun W => W.cell? ⟨b, off + i * 3 + 2, none⟩ = some (.slice (some ⟨b2, off2, none⟩) x.rs.length xk) ∧ W.cell? ⟨b2, off2 + k * 3, none⟩ = some (.int .i64 c.e) ∧ W.cell? ⟨b2, off2 + k * 3 + 1, none⟩ = some (.int .i64 c.n)) (first | exact ⟨d2, c0, c1⟩ | exact ⟨y0, y1, y2⟩ | exact ⟨z0, z1, z2⟩ | go_keep)
                          (first
                          | (go_at_call 31; refine DU.out.mono ?_; rintro E w8 ⟨vd, rfl, ⟨y0, y1, y2⟩, H8⟩)
                          | (go_at_call 11; refine (HAS.out _ _ H8.out).mono ?_; rintro E w9 ⟨rfl, ⟨z0, z1, z2⟩, F9⟩))
                        all_goals
                          clear DU HAS
                          go_wp2
                          go_roundw
                          case rel => exact ⟨k + 1, by omega, by go_num, by rw [FOK.out]; rfl, F9⟩
                          case measure => simp [intOf]; omega
                      · have t2 : (c.n == n) = false := by simp [z2]
                        rw [t2] at FOK
                        clear z1 z2
                        go_wp2_with fail
                        go_region_held3 (fun W => W.cell? ⟨b, off + i * 3 + 2, none⟩ = some (.slice (some ⟨b2, off2, none⟩) x.rs.length xk) ∧ W.cell? ⟨b2, off2 + k * 3, none⟩ = some (.int .i64 c.e) ∧ W.cell? ⟨b2, off2 + k * 3 + 1, none⟩ = some (.int .i64 c.n)) (first | exact ⟨d2, c0, c1⟩ | exact ⟨y0, y1, y2⟩ | exact ⟨z0, z1, z2⟩ | go_keep)
                          (first
                          | (go_at_call 31; refine DU.out.mono ?_; rintro E w8 ⟨vd, rfl, ⟨y0, y1, y2⟩, H8⟩)
                          | (go_at_call 11; refine (HAS.out _ _ H8.out).mono ?_; rintro E w9 ⟨rfl, ⟨z0, z1, z2⟩, F9⟩))
                        all_goals
                          clear DU HAS
                          go_wp2
                          go_roundw
                          case rel => exact ⟨k + 1, by omega, by go_num, by rw [FOK.out]; rfl, F9⟩
                          case measure => simp [intOf]; omega
                    · have t1 : (c.e == e) = false := by simp [z1]
                      rw [t1] at FOK
                      clear z1
                      go_wp2_with fail
                      go_region_held3 (fun W => W.cell? ⟨b, off + i * 3 + 2, none⟩ = some (.slice (some ⟨b2, off2, none⟩) x.rs.length xk) ∧ W.cell? ⟨b2, off2 + k * 3, none⟩ = some (.int .i64 c.e) ∧ W.cell? ⟨b2, off2 + k * 3 + 1, none⟩ = some (.int .i64 c.n)) (first | exact ⟨d2, c0, c1⟩ | exact ⟨y0, y1, y2⟩ | exact ⟨z0, z1, z2⟩ | go_keep)
                        (first
                        | (go_at_call 31; refine DU.out.mono ?_; rintro E w8 ⟨vd, rfl, ⟨y0, y1, y2⟩, H8⟩)
                        | (go_at_call 11; refine (HAS.out _ _ H8.out).mono ?_; rintro E w9 ⟨rfl, ⟨z0, z1, z2⟩, F9⟩))
                      all_goals
                        clear DU HAS
                        go_wp2
                        go_roundw
                        case rel => exact ⟨k + 1, by omega, by go_num, by rw [FOK.out]; rfl, F9⟩
                        case measure => simp [intOf]; omega
              · have hkl' : ¬ (k : Int) < x.rs.length := by omega
                have HALL : Hid ((fo || hasC (x.rs.take k) e n) = Orp.has (sws (l.take (i + 1))) e n) := hide (by rw [List.take_of_length_le (by omega), NXH.out, HFO.out])
                obtain ⟨y, hy⟩ : ∃ z, (fo || hasC (x.rs.take k) e n) = z := ⟨_, rfl⟩
                rw [hy] at HALL ⊢
                have LX := hide (lst_next HX.out)
                clear hy
                go_wp2
                go_roundw
                case rel => exact ⟨i + 1, st6, by omega, by go_num, by rw [LX.out], by rw [HALL.out], FK⟩
                case measure => simp [intOf]; omega
        · have hcb : (ck != 0) = true := by simp [hc0]
          obtain ⟨⟨d0, d1, d2⟩, _⟩ := CE.out w4 T4.out.dk.bel
          go_wp2
          go_ret
          exact ⟨rfl, BR4.out⟩
    · obtain rfl : i = l.length := by omega
      have hlt' : ¬ (l.length : Int) < l.length := by omega
      have hall : l.take l.length = l := List.take_length
      have hsb := T.out.small (by omega)
      have DU := hide (T.out.dur (by omega))
      have RIS := hide T.out.ris
      rw [hall] at hsb RIS DU ⊢
      have SNI := hide (Orp.sn_self RIS.out)
      obtain ⟨la, hla⟩ : ∃ z, Orp.lstS 0 (sws l) = z := ⟨_, rfl⟩
      obtain ⟨fo, hfo⟩ : ∃ z, Orp.has (sws l) e n = z := ⟨_, rfl⟩
      rw [hla, hfo]
      have HFO := hide hfo
      clear hla hfo hall T
      go_wp2_with fail
      refine DU.out.mono ?_
      rintro E w3 ⟨vd, rfl, own3, bel3⟩
      obtain ⟨a3, q3, hv3, _, _⟩ := own3.is.shape
      obtain ⟨m3, hm3⟩ : ∃ z, (Orp.secs (sws l)).length = z := ⟨_, rfl⟩
      rw [hm3] at hv3 hsb
      have HM3 := hide hm3
      have O3 := hide own3.is
      have B3 := hide (BR.out.trans (bel3.mono BR.out.size))
      rw [hv3] at O3
      have SC := hide (poscan_any _ _ w3 O3.out (by rw [hm3]; omega))
      subst hv3
      clear DU own3 bel3 BR hm3
      go_wp2_with fail
      refine SC.out.mono ?_
      rintro E w4 ⟨v4, m, n4, rfl, H4⟩
      have hm : sws m = sws l := Orp.sn_one H4.out.2.2.2.1 SNI.out
      have hn4 : n4 = m3 := by rw [H4.out.2.2.1, hm, HM3.out]
      have bel4 := H4.out.2.2.2.2
      have O4 := hide (O3.out.below bel4)
      have B4 := hide (B3.out.trans (bel4.mono B3.out.size))
      have SS := hide (sameSe_yes v4 _ m l w4 H4.out.1.is (HI.out.below B4.out) H4.out.2.1 HF.out (by
        have h1 : m.length = l.length := by rw [← sws_len m, hm, sws_len]
        omega) hm)
      subst hn4
      clear SC H4 hm O3 B3 bel4
      go_wp2_with fail
      refine SS.out.mono ?_
      rintro E w5 ⟨rfl, bel5⟩
      have O5 := hide (O4.out.below bel5)
      have B5 := hide (B4.out.trans (bel5.mono B4.out.size))
      have HA := hide (pohas_any _ _ e n w5 O5.out (by rw [HM3.out]; omega) _ SNI.out)
      rw [HFO.out] at HA
      clear SS O4 B4 bel5
      go_wp2_with fail
      refine HA.out.mono ?_
      rintro E w6 ⟨rfl, bel6⟩
      have B6 := hide (B5.out.trans (bel6.mono B5.out.size))
      clear HA O5 B5 bel6
      cases fo with
      | true =>
        go_wp2
        go_ret
        exact ⟨rfl, B6.out⟩
      | false =>
        go_wp2
        go_ret
        exact ⟨rfl, B6.out⟩

theorem orphanFile_walk (v : Value) (l : List Sw) (e n : Int) (w : World) (h : IsSe w v l) (hf : FitSe l) (hl : l.length * 40 ≤ 140737488351232) (he : (Lit.int .i64 e).wf = true) (hn : (Lit.int .i64 n).wf = true) :
    Calls Try.prog 6 #[v, .int .i64 e, .int .i64 n] w fun E w' => E = .returned (.bool true) ∧ Below w.heap.size w w' :=
  orphanFile_w v l e n w h hf (by omega)

end Go.Proofs.Ytkpnkknolobioaa

/- Proved: OrphanFile -/
namespace Go.Proofs.Ytkpnkknolobioaa
open Go.ChangeShapes Go.WideShapes Go.ChangeAt Go.RowKit
open Go.ChangeMaps (open_string shut_string)
set_option linter.unusedVariables false

namespace orphanFileFrame
theorem own : ownKnob Try.prog.godebug = none := by kernel_rfl
theorem laidOut : laidOutB Try.prog = true := by kernel_rfl
theorem cells24 : Try.prog.cellsOf 24 = 3 := by kernel_rfl
theorem bytes24 : Try.prog.bytesOf 24 = 40 := by kernel_rfl
theorem cells32 : Try.prog.cellsOf 32 = 3 := by kernel_rfl
theorem bytes32 : Try.prog.bytesOf 32 = 40 := by kernel_rfl
theorem cells66 : Try.prog.cellsOf 66 = 3 := by kernel_rfl
theorem bytes66 : Try.prog.bytesOf 66 = 40 := by kernel_rfl

set_option maxRecDepth 100000 in
theorem lifted (os : Os) (started : os.Started) (H : Type) (enc : TypeId × Value → H) :
    ReturnsInHanded {} Try.checked os 6 .any (Rows.orphanFileSpec.pre6 enc Try.prog Try.f6 Rows.orphanFileRow.domain false) (Rows.orphanFileSpec.post enc Try.prog Try.f6 false true false false) := by
  refine returnsInHanded_of_change_sized (C := Try.checked) own started (by kernel_rfl) Try.func6
    (ChangeSpec.witness6 (enc := enc) (C := Try.checked) false ⟨#[], #[.slice none 0 0, .int .i64 0, .int .i64 0], []⟩ 8 (by kernel_rfl) (by kernel_rfl) (by kernel_rfl) (by kernel_rfl)) ?_
  intro W base args ds gs before hval0 hW hcnd hsz0 _
  have hsz : (DataW.weightsEach Try.prog (Try.f6.params.toList ++ Rows.orphanFileSpec.plain.varTypes Try.prog) (ds ++ gs)).all (· ≤ reachBytes) = true := hsz0
  clear hsz0
  have hval : ∀ (j : Nat) t v, Try.f6.params[j]? = some t → args[j]? = some v → Value.okWide Try.prog W .any base t v := hval0
  have hW' := hW
  obtain ⟨p, q, hA0, hV, rfl, hfz, hnd⟩ := hW
  have hA : DataW.TrodAll enc Try.prog W 0 (fun _ => true) true Try.f6.params.toList args.toList ds p := hA0
  rw [Try.params6] at hA hval hsz
  obtain ⟨v0, vs0, d0, ds0, p0, q0, hargs, rfl, rfl, h0, r0⟩ := trodAll_cons hA
  obtain ⟨v1, vs1, d1, ds1, p1, q1, rfl, rfl, rfl, h1, r1⟩ := trodAll_cons r0
  obtain ⟨v2, vs2, d2, ds2, p2, q2, rfl, rfl, rfl, h2, r2⟩ := trodAll_cons r1
  obtain ⟨rfl, rfl, rfl⟩ := trodAll_nil r2
  obtain rfl : args = #[v0, v1, v2] := by cases args; simp_all
  obtain ⟨rfl, rfl⟩ := trodVars_none hV
  obtain ⟨a0, len0, cap0, rfl⟩ := okWide_slice Try.underlying41 (hval 0 41 v0 rfl rfl)
  have k0 := h0
  have lt0 : ∀ x ∈ p0, x.block < W.heap.size := by obtain ⟨m, hm⟩ := k0; exact DataW.trod_lt m _ _ _ hm
  obtain ⟨z0, w0, g0, b0⟩ : ∃ r, IsSe W (.slice a0 len0 cap0) r ∧ FitSe r ∧ r.length * 40 ≤ 140737488351232 := by
    obtain ⟨fuel, hf⟩ := h0
    have hf' : DataW.trod enc Try.prog W 0 (fun _ => true) true fuel 41 [.slice a0 len0 cap0] = some (d0, p0) := by simpa [Value.cells] using hf
    obtain ⟨r, hr, hd⟩ := open_secs Try.underlying41 Try.underlying24 (by kernel_rfl) cells24 Try.underlying3 Try.underlying3 Try.underlying22 Try.underlying32 (by kernel_rfl) cells32 Try.underlying3 Try.underlying3 Try.underlying30 Try.underlying66 (by kernel_rfl) cells66 Try.underlying4 Try.underlying9 Try.underlying9 hf'
    rcases hd with ⟨_, rfl⟩ | ⟨es, sp, hd, hln, hes⟩
    · exact ⟨[], hr, fun c hc => by simp at hc, by simp⟩
    · simp only at hd
      rw [hd] at hsz
      obtain ⟨h1, h2⟩ := sized_secs hsz (j := 0) (t := 41) (e := 24) rfl rfl hln hes Try.underlying41 Try.underlying24 bytes24 Try.underlying22 Try.underlying32 bytes32 Try.underlying30 Try.underlying66 bytes66
      exact ⟨r, hr, h1, h2⟩
  obtain ⟨a1, rfl, rfl, rfl, w1⟩ := open_int Try.underlying3 (hval 1 3 v1 rfl rfl) h1
  obtain ⟨a2, rfl, rfl, rfl, w2⟩ := open_int Try.underlying3 (hval 2 3 v2 rfl rfl) h2
  clear hA0 hval0
  refine (orphanFile_walk _ z0 a1 a2 W w0 g0 b0 w1 w2).mono fun e W' ⟨he, bel⟩ => ?_
  subst he
  exact ⟨_, rfl, _, _, _, [], _, [], hW', trodAll_mk1 (shut_bool Try.underlying4 _), (trodAll_cons_mk (Below.trod laidOut (by kernel_rfl) (of_decide_eq_true (by kernel_rfl)) k0 bel lt0) (trodAll_cons_mk (shut_int Try.underlying3 w1) (trodAll_cons_mk (shut_int Try.underlying3 w2) trodAll_mk0))), rfl, bel.frame _, fun h => by cases h⟩

theorem over : Rows.orphanFileRow.holds Try.pinned (OpenSpec.ofChange Rows.orphanFileSpec) :=
  OpenClaim.holds_of_wide 6 Try.f6 rfl rfl rfl rfl rfl rfl rfl ⟨rfl, rfl, rfl, rfl, rfl⟩ rfl rfl rfl rfl rfl (by kernel_rfl) Try.func6 (by kernel_rfl)
    (of_decide_eq_true (by kernel_rfl)) (by unfold Func.isWrapper; first | (rw [if_pos (by decide +kernel)]; kernel_rfl) | (rw [if_neg (by decide +kernel)]; exact ⟨rfl, rfl⟩))
    (fun os started H enc _ => lifted os started H enc)
end orphanFileFrame

/-- The statement. -/
theorem orphanFile_holds : Rows.OrphanFileSaid := orphanFileFrame.over
#print axioms orphanFile_holds
end Go.Proofs.Ytkpnkknolobioaa
