/- WalScript: the walk, as soon as the pair's 'same' is known. -/
import Derived.Test.YtmkpaedemjiboaaGreatUu
import Derived.Test.YtmkpaedemjiboaaGreatB9
import Derived.Test.YtmkpaedemjiboaaGreatA7
namespace Go.Proofs.YtmkpaedemjiboaaGreat
open Go.RowKit
set_option linter.unusedVariables false

/-- What the pair's 'same' answers. -/
def SameC : Prop := ∀ (w0 : World) (r : Nat) (w : World) (s : Wl.Ws) (p q x y : Nat) (F G : Nat → Prop), PV w0 r w s s p q x y F G → WBig s → s.l.length ≤ 1000000 →
    Calls Tryz.prog 10 #[.pointer (some ⟨r, 0, none⟩)] w fun E w' => E = .returned (.bool true) ∧ Below w.heap.size w w'

theorem smQ_len {l : List Ac} (h : smQ l = true) : l.length ≤ 60 := by
  unfold smQ at h
  simp at h
  exact h.2

/-- The pair is new. -/
theorem pair_new (w1 w4 w5 : World) (r q y : Nat) (hq : w1.heap.size ≤ q) (hy : w1.heap.size ≤ y) (hr : w1.heap.size ≤ r) (hqr : q ≠ r) (hyr : y ≠ r) (hqs : q < w4.heap.size) (hys : y < w4.heap.size) (hrs : r < w4.heap.size) (hb : Below w1.heap.size w1 w4) (h : Opd r q y (fun g => g = q) (fun g => g = y) w4 Dm.new w5) :
    ∃ s p x F G, PV w1 r w5 s s p q x y F G ∧ In 1 s := by
  obtain ⟨m, hm, hc⟩ := h
  have h0 : opE Dm.new m = 0 := by
    unfold opE
    rw [if_neg (by decide)]
    exact (Wl.trm_is rfl rfl hm).1
  have hin := in_open (s := ⟨Dm.new, [], false⟩) (k := 0) big_new (by simp) hm
  rw [if_pos h0] at hin
  rcases hc with ⟨hn, _⟩ | ⟨_, p, x, F, G, hB, hW, hX, ha, sF, sG, oo⟩
  · exact absurd h0 hn
  refine ⟨_, p, x, F, G, ⟨hB, hW, hX, ha, fun e => ?_, fun e => ?_, fun g e => ?_, fun g e => ?_, hr, hb.trans (oo.below (fun g e => ?_) hb.size)⟩, hin⟩
  · rcases sF r e with a | a
    · exact hqr a.symm
    · omega
  · rcases sG r e with a | a
    · exact hyr a.symm
    · omega
  · rcases sF g e with a | a
    · omega
    · have := hb.size
      omega
  · rcases sG g e with a | a
    · omega
    · have := hb.size
      omega
  · rcases e with a | a | a <;> omega

set_option maxRecDepth 20000 in
set_option maxHeartbeats 16000000 in
theorem walScript_by (hsame : SameC) (vl : Value) (l : List Ac) (w : World) (hq : IsQ w vl l) (hfq : FitQ l) (hlq : l.length * 64 ≤ 140737488351232) :
    Calls Tryz.prog 3 #[vl] w fun e w' => e = .returned (.bool true) ∧ Below w.heap.size w w' := by
  have HQ := hide hq
  have HFQ := hide hfq
  have HSA := hide hsame
  obtain ⟨qa, qc, hvl, _, _⟩ := hq.1.shape
  have HS : Hid (∀ W, Below w.heap.size w W → Calls Tryz.prog 5 #[vl] W fun E w' => E = .returned (.bool (smQ l)) ∧ W = w') := hide fun W hb => qsmall_any vl l W (hq.below hb) (by omega) hfq
  subst hvl
  clear hq hfq hsame
  go_enter Tryz.func3, Tryz.ntmps3
  go_wp2_with fail
  refine (lives_any w).mono ?_
  rintro E w1 ⟨rfl, b1⟩
  have B1 := hide b1
  have HS1 := hide (HS.out w1 b1)
  obtain ⟨sm, hsm⟩ : ∃ x, smQ l = x := ⟨_, rfl⟩
  rw [hsm] at HS1
  clear b1 HS
  go_wp2_with fail
  refine HS1.out.mono ?_
  rintro E w' ⟨rfl, rfl⟩
  cases sm with
  | false =>
    go_wp2
    go_ret
    exact ⟨rfl, B1.out⟩
  | true =>
    have hll := smQ_len hsm
    have HQ1 := hide (HQ.out.below B1.out)
    clear HS1 HQ hsm
    go_wp2_with fail
    refine (new_any w1).mono ?_
    rintro E w2 ⟨rfl, K2, b2⟩
    go_wp2_with fail
    refine (newR_any w2).mono ?_
    rintro E w3 ⟨rfl, D3, b3⟩
    obtain ⟨w4, hw4, sz4, bel4, hB4⟩ := blk_step w3 #[.pointer (some ⟨w1.heap.size, 0, none⟩), .pointer none, .pointer (some ⟨w2.heap.size, 0, none⟩), .pointer none] 33
    have sq2 : w1.heap.size < w2.heap.size := K2.lt _ rfl
    have sq3 : w2.heap.size < w3.heap.size := D3.lt _ rfl
    have b24 := b3.trans (bel4.mono b3.size)
    have b14 := b2.trans (b24.mono b2.size)
    have HO := hide (opened_raw w3.heap.size w1.heap.size w2.heap.size (.pointer none) (.pointer none) (fun g => g = w1.heap.size) (fun g => g = w2.heap.size) w4 Dm.new hB4 (K2.below b24) (D3.below bel4) (fun g e1 e2 => by omega) (by omega) (by omega) (Big.mono big_new (by decide) (by decide)))
    have PN : Hid (∀ w5, Opd w3.heap.size w1.heap.size w2.heap.size (fun g => g = w1.heap.size) (fun g => g = w2.heap.size) w4 Dm.new w5 → ∃ s p x F G, PV w1 w3.heap.size w5 s s p w1.heap.size x w2.heap.size F G ∧ In 1 s) := hide fun w5 h => pair_new w1 w4 w5 _ _ _ (Nat.le_refl _) (by omega) (by omega) (by omega) (by omega) (by omega) (by omega) (by omega) b14 h
    generalize hgq : w1.heap.size = q at *
    generalize hgy : w2.heap.size = y at *
    generalize hgr : w3.heap.size = r at *
    clear K2 D3 b2 b3 bel4 hB4 b24 b14 sq2 sq3
    go_wp2_with fail
    refine HO.out.mono ?_
    rintro E w5 ⟨rfl, OP⟩
    obtain ⟨s0, p0, x0, F0, G0, P0, I0⟩ := PN.out w5 OP
    have hc5 := P0.cells.2.2.2
    have HP0 := hide P0
    have HI0 := hide I0
    clear HO PN OP P0 I0
    go_wp2
    go_loopw [4] (fun iv wr => ∃ (j : Nat) (s : Wl.Ws) (p x : Nat) (F G : Nat → Prop), j ≤ l.length ∧ iv = .int .i64 j ∧ Hid (PV w1 r wr s s p q x y F G) ∧ Hid (In (j + 1) s)) (fun iv _ => l.length - (intOf iv).toNat)
    case atStart => exact ⟨0, s0, p0, x0, F0, G0, by omega, rfl, HP0, HI0⟩
    case round =>
      obtain ⟨j, s, p, x, F, G, hj, rfl, HP, HI⟩ := hrel
      clear HP0 HI0
      by_cases hlt : j < l.length
      · obtain ⟨qb, qo, qk, hvx, _, _, _, hcell⟩ := (HQ1.out.below HP.out.bel).full (by omega)
        simp only [Value.slice.injEq, true_and] at hvx
        obtain ⟨rfl, rfl⟩ := hvx
        obtain ⟨a, ha⟩ : ∃ a, l[j]? = some a := ⟨l[j], by rw [List.getElem?_eq_getElem]⟩
        obtain ⟨d0, d1, d2, d3, d4, d5⟩ := hcell j a ha
        have AO := HQ1.out.2 a (List.mem_of_getElem? ha)
        have AF := HFQ.out a (List.mem_of_getElem? ha)
        obtain ⟨ao, ak, hao, _, _⟩ := AO.1.shape
        have PC := hide (pcall_any w1 r wr s p q x y F G HP.out (j + 1) HI.out (by omega) a AO AF)
        unfold acv at PC
        rw [hao] at d5 PC
        have hlt' : (j : Int) < l.length := by omega
        have hj0 : (0 : Int) ≤ (j : Int) := by omega
        clear hcell ha hao AO AF
        go_wp2_with fail
        refine PC.out.mono ?_
        rintro E w6 ⟨rfl, s6, p6, x6, F6, G6, P6, I6⟩
        have SM := hide (HSA.out w1 r w6 s6 p6 q x6 y F6 G6 P6 (I6.wbig (by omega)) (by have := I6.len; omega))
        have HP6 := hide P6
        have HI6 := hide I6
        clear PC P6 I6 HP HI d0 d1 d2 d3 d4 d5
        go_wp2_with fail
        refine SM.out.mono ?_
        rintro E w7 ⟨rfl, b7⟩
        have HP7 := hide (HP6.out.below b7)
        clear SM b7 HP6
        go_wp2
        go_roundw
        case rel => exact ⟨j + 1, s6, p6, x6, F6, G6, by omega, by go_num, HP7, HI6⟩
        case measure => simp [intOf]; omega
      · obtain rfl : j = l.length := by omega
        have hlt' : ¬ (l.length : Int) < l.length := by omega
        have hsl : s.l.length ≤ 1000000 := by have := HI.out.len; omega
        have GD := hide HP.out.xx.good
        have HR : Hid (∀ W, PV w1 r W s s p q x y F G → Calls Tryz.prog 12 #[.pointer (some ⟨p, 0, none⟩), .int .i64 1, .int .i64 60] W fun E w' => ∃ v rs, E = .returned v ∧ (∃ a n c, v = .slice a n c) ∧ OwC W.heap.size w' v rs ∧ Below W.heap.size W w' ∧ PV w1 r w' s s p q x y F G ∧ w'.cell? ⟨r, 1, none⟩ = some (.pointer (some ⟨p, 0, none⟩))) := hide fun W hW => by
          refine (wfrom_any p q F W s 1 60 hW.ww).mono ?_
          rintro E w' ⟨v, rs, rfl, own, cop, is, ap, b⟩
          obtain ⟨u, c, hv, _⟩ := own.row.shape
          exact ⟨v, rs, rfl, ⟨u, _, c, hv⟩, frl_owc own cop is ap GD.out, b, hW.below b, (hW.below b).cells.2.1⟩
        have TS : Hid (∀ W, PV w1 r W s s p q x y F G → Calls Tryz.prog 14 #[.pointer (some ⟨p, 0, none⟩)] W fun E w' => ∃ v, E = .returned v ∧ (∃ a n c, v = .slice a n c) ∧ OwnS W.heap.size w' v (ofs s.l) ∧ Below W.heap.size W w' ∧ PV w1 r w' s s p q x y F G ∧ w'.cell? ⟨r, 1, none⟩ = some (.pointer (some ⟨p, 0, none⟩))) := hide fun W hW => by
          refine (wstarts_any p q F W s hW.ww hsl).mono ?_
          rintro E w' ⟨v, rfl, own, b⟩
          obtain ⟨u, c, hv, _⟩ := own.row.shape
          exact ⟨v, rfl, ⟨u, _, c, hv⟩, own, b, hW.below b, (hW.below b).cells.2.1⟩
        have ofl : (ofs s.l).length ≤ 1000000 := Nat.le_trans (ofs_len _) hsl
        have WB := hide (HI.out.wbig (by omega))
        have P0 := hide (HP.out.below ((Below.refl wr.heap.size wr).drew))
        have a1 := HP.out.cells.2.1
        have FIN : Hid (∀ W, PV w1 r W s s p q x y F G → Below w.heap.size w W) := hide fun W hW => B1.out.trans (hW.bel.mono B1.out.size)
        have SM : Hid (∀ W, PV w1 r W s s p q x y F G → Calls Tryz.prog 10 #[.pointer (some ⟨r, 0, none⟩)] W fun E w' => E = .returned (.bool true) ∧ PV w1 r w' s s p q x y F G ∧ w'.cell? ⟨r, 1, none⟩ = some (.pointer (some ⟨p, 0, none⟩))) := hide fun W hW => by
          refine (HSA.out w1 r W s p q x y F G hW WB.out hsl).mono ?_
          rintro E w' ⟨rfl, b⟩
          exact ⟨rfl, hW.below b, (hW.below b).cells.2.1⟩
        have OFL := hide ofl
        have AC : Hid (∀ W W3 W4 v1 v2 r1 r2, PV w1 r W s s p q x y F G → OwC W.heap.size W3 v1 r1 → Below W.heap.size W W3 → OwC W3.heap.size W4 v2 r2 → Below W3.heap.size W3 W4 → ∃ V, W4.alloc (.cells #[v1, v2] 41) = V ∧ V.cell? ⟨r, 1, none⟩ = some (.pointer (some ⟨p, 0, none⟩)) ∧ Calls Tryz.prog 11 #[.slice (some ⟨W4.heap.size, 0, none⟩) 2 2] V fun E w' => E = .returned (.bool true) ∧ PV w1 r w' s s p q x y F G ∧ w'.cell? ⟨r, 1, none⟩ = some (.pointer (some ⟨p, 0, none⟩))) := hide fun W W3 W4 v1 v2 r1 r2 h0 h1 c1 h2 c2 => by
          have h4 := (h0.below c1).below c2
          refine ⟨_, rfl, (h4.below ((Below.refl _ _).alloc (Nat.le_refl _) _)).cells.2.1, ?_⟩
          exact (h0.apartC h1 c1 h2 c2).mono fun E w' k => ⟨k.1, k.2, k.2.cells.2.1⟩
        have AS : Hid (∀ W W3 W4 v1 v2, PV w1 r W s s p q x y F G → OwnS W.heap.size W3 v1 (ofs s.l) → Below W.heap.size W W3 → OwnS W3.heap.size W4 v2 (ofs s.l) → Below W3.heap.size W3 W4 → ∃ V, W4.alloc (.cells #[v2] 45) = V ∧ V.cell? ⟨r, 1, none⟩ = some (.pointer (some ⟨p, 0, none⟩)) ∧ Calls Tryz.prog 13 #[v1, .slice (some ⟨W4.heap.size, 0, none⟩) 1 1] V fun E w' => E = .returned (.bool true) ∧ PV w1 r w' s s p q x y F G ∧ w'.cell? ⟨r, 1, none⟩ = some (.pointer (some ⟨p, 0, none⟩))) := hide fun W W3 W4 v1 v2 h0 h1 c1 h2 c2 => by
          have h4 := (h0.below c1).below c2
          refine ⟨_, rfl, (h4.below ((Below.refl _ _).alloc (Nat.le_refl _) _)).cells.2.1, ?_⟩
          exact (h0.apartS h1 c1 h2 c2 OFL.out OFL.out).mono fun E w' k => ⟨k.1, k.2, k.2.cells.2.1⟩
        clear HP HI hsl ofl WB GD HSA hlq hll HQ1 HFQ hc5
        go_wp2_with fail
        go_region_held3 (fun w' => w'.cell? ⟨r, 1, none⟩ = some (.pointer (some ⟨p, 0, none⟩))) (first | exact a1 | exact a2 | exact a3 | exact a4 | exact a5 | exact a6 | exact a7 | exact a8 | exact a9 | exact aa | go_keep)
          (first
          | (go_at_call 12; first
              | (refine (HR.out _ P0.out).mono ?_; rintro E w2 ⟨v2, r2, rfl, ⟨u2, n2, c2, rfl⟩, O2, b2, P2, a2⟩; have O2 := hide O2; have P2 := hide P2; have b2 := hide b2)
              | (refine (HR.out _ P2.out).mono ?_; rintro E w3 ⟨v3, r3, rfl, ⟨u3, n3, c3, rfl⟩, O3, b3, P3, a3⟩; obtain ⟨V4, hV4, a4, AC4⟩ := AC.out _ _ _ _ _ _ _ P0.out O2.out b2.out O3 b3; have AC4 := hide AC4; clear O3 b3 P3))
          | (go_at_call 11; refine AC4.out.mono ?_; rintro E w5 ⟨rfl, P5, a5⟩; have P5 := hide P5; clear AC4 O2 b2)
          | (go_at_call 14; first
              | (refine (TS.out _ P5.out).mono ?_; rintro E w6 ⟨v6, rfl, ⟨u6, n6, c6, rfl⟩, O6, b6, P6, a6⟩; have O6 := hide O6; have P6 := hide P6; have b6 := hide b6)
              | (refine (TS.out _ P6.out).mono ?_; rintro E w7 ⟨v7, rfl, ⟨u7, n7, c7, rfl⟩, O7, b7, P7, a7⟩; obtain ⟨V8, hV8, a8, AC8⟩ := AS.out _ _ _ _ _ P5.out O6.out b6.out O7 b7; have AC8 := hide AC8; clear O7 b7 P7))
          | (go_at_call 13; refine AC8.out.mono ?_; rintro E w9 ⟨rfl, P9, a9⟩; have P9 := hide P9; clear AC8 O6 b6)
          | (go_at_call 10; refine (SM.out _ P9.out).mono ?_; rintro E wa ⟨rfl, PA, aa⟩; have PA := hide PA))
        all_goals
          go_wp2
          go_ret
          exact ⟨rfl, FIN.out _ PA.out⟩

end Go.Proofs.YtmkpaedemjiboaaGreat
