/- The walk of DiskPrefix. -/
import Derived.Test.YteklbnonikccaaaDq
namespace Go.Proofs.Yteklbnonikccaaa
open Go.RowKit Go.Shelf
set_option linter.unusedVariables false

theorem Try.enters31 : ∀ args w, (callFunc 31 args).run Try.prog w = .ok (.enter 31 args) w := enters_of Try.func31 (by kernel_rfl) rfl

theorem blk_four {w : World} {A : Nat} {va : Nat → Value} {t : TypeId} {fr : Nat × Nat} (h : w.heap[A]? = some (.cells #[va 0, va 1, va 2, va 3] t fr)) (f : Nat) (hf : f < 4) : w.cell? ⟨A, f, none⟩ = some (va f) := by
  rcases (show f = 0 ∨ f = 1 ∨ f = 2 ∨ f = 3 by omega) with rfl | rfl | rfl | rfl
  · exact blk_cell h 0 rfl
  · exact blk_cell h 1 rfl
  · exact blk_cell h 2 rfl
  · exact blk_cell h 3 rfl

/-- What holds between two calls. -/
def PX (base p A S : Nat) (k : Nat) (w : World) : Prop := ∃ st all sure, XI base p A S w st all sure ∧ PI st all sure ∧ Big (400 * k) (8 * k) st ∧ ∀ f, (all f).length ≤ 400 * k

set_option maxRecDepth 100000 in
set_option maxHeartbeats 16000000 in
theorem diskPrefix_walk (v : Value) (l : List Aw) (kk tt : Int) (w : World) (h : IsA w v l) (hl : l.length * 56 ≤ 140737488351232) (hkw : (Lit.int .i64 kk).wf = true) (htw : (Lit.int .i64 tt).wf = true) :
    Calls Try.prog 6 #[v, .int .i64 kk, .int .i64 tt] w fun E w' => E = .returned (.bool true) ∧ Below w.heap.size w w' := by
  have ht64 : tt ≤ 9223372036854775807 := by
    have := range_i64 (zs := [tt]) (by simpa using htw) 0
    simp at this
    omega
  obtain ⟨ao, cap, hv, hcap, hcm⟩ := h.1.shape
  have H := hide h
  subst hv
  clear hkw htw h
  go_enter Try.func6, Try.ntmps6
  go_wp2_with fail
  refine (lives_any w).mono ?_
  rintro E w1 ⟨rfl, b1⟩
  have s1 := b1.size
  have H1 := hide (H.out.below b1)
  go_wp2_with fail
  refine (small_any _ l w1 H1.out (by omega)).mono ?_
  rintro E w1' ⟨rfl, rfl⟩
  cases hsm : smallA l
  · go_wp2
    go_ret
    exact ⟨rfl, b1⟩
  · obtain ⟨hl100, hl400⟩ := smallA_len hsm
    clear hsm
    by_cases hk0 : kk < 0
    · go_wp2
      go_ret
      exact ⟨rfl, b1⟩
    · by_cases ht0 : tt < 0
      · go_wp2
        go_ret
        exact ⟨rfl, b1⟩
      · obtain ⟨kn, rfl⟩ : ∃ x : Nat, kk = x := ⟨kk.toNat, by omega⟩
        obtain ⟨tn, rfl⟩ : ∃ x : Nat, tt = x := ⟨tt.toNat, by omega⟩
        have hk0' : ¬ (kn : Int) < 0 := hk0
        have ht0' : ¬ (tn : Int) < 0 := ht0
        clear hk0 ht0
        go_wp2_with fail
        refine (new_any w1).mono ?_
        rintro E w2 ⟨rfl, K2, b2⟩
        have s2 := b2.size
        obtain ⟨w3, hw3, sz3, bel3, B3⟩ := blk_step w2 #[.slice none 0 0, .slice none 0 0, .slice none 0 0, .slice none 0 0] 52
        obtain ⟨w4, hw4, sz4, bel4, B4⟩ := blk_step w3 #[.slice none 0 0, .slice none 0 0, .slice none 0 0, .slice none 0 0] 52
        rw [sz3] at B4 bel4
        have hp2 : w1.heap.size < w2.heap.size := K2.lt _ rfl
        have b24 : Below w2.heap.size w2 w4 := bel3.trans (bel4.mono (by omega))
        have c4 : Below w1.heap.size w1 w4 := b2.trans (b24.mono s2)
        have I4 : Hid (PX w1.heap.size w1.heap.size w2.heap.size (w2.heap.size + 1) 0 w4) := hide ⟨_, _, _, ⟨_, fun _ => .slice none 0 0, fun _ => .slice none 0 0, K2.below b24, fun g hg => by omega, by omega, by omega, by omega, (bel4.block _ (by omega)).trans B3, B4, fun f _ => ⟨Is.nil _ _, fun b hb => by simp [Value.ownBlock] at hb⟩, fun f _ => ⟨Is.nil _ _, fun b hb => by simp [Value.ownBlock] at hb⟩⟩, pi_new, big_new, fun f => by simp⟩
        replace sz4 : w4.heap.size = w2.heap.size + 2 := by omega
        clear B3 B4 bel3 bel4 K2
        go_wp2
        go_loopw [10, 11] (fun iv _ wr => ∃ k : Nat, k ≤ l.length ∧ iv = .int .i64 k ∧ Below w1.heap.size w1 wr ∧ Hid (PX w1.heap.size w1.heap.size w2.heap.size (w2.heap.size + 1) k wr)) (fun iv _ _ => l.length - (intOf iv).toNat)
        case atStart => exact ⟨0, by omega, rfl, c4, I4⟩
        case round =>
          obtain ⟨k, hk, rfl, bel, I⟩ := hrel
          have sz := bel.size
          obtain ⟨st, all, sure, ⟨F, va, vs, X⟩, P, hBig, hall⟩ := I.out
          have HX := hide X
          have HP := hide P
          by_cases hlt : k < l.length
          · have HAr := hide (H1.out.below bel)
            obtain ⟨b, off, cq, hvx, _, _, hB, hcell⟩ := H1.out.full (by omega)
            simp only [Value.slice.injEq, true_and] at hvx
            obtain ⟨rfl, rfl⟩ := hvx
            obtain ⟨a, ha⟩ : ∃ a, l[k]? = some a := ⟨l[k], by rw [List.getElem?_eq_getElem]⟩
            obtain ⟨_, d1, _, _, d4⟩ := hcell k a ha
            have e1 := (bel.cell (p := ⟨b, off + k * 5 + 1, none⟩) hB).trans d1
            have e4 := (bel.cell (p := ⟨b, off + k * 5 + 4, none⟩) hB).trans d4
            clear d1 d4
            have hmem := List.mem_of_getElem? ha
            have hbs := hl400 a hmem
            have aok := HAr.out.2 a hmem
            have aok1 := H1.out.2 a hmem
            obtain ⟨av, ac, hav, _, _⟩ := aok.1.shape
            have hlt' : (k : Int) < l.length := by omega
            have hkz : (0 : Int) ≤ (k : Int) := by omega
            have PA := hide (pickx_any a.f 4 wr (by omega) (by omega) aok.2.2.1)
            obtain ⟨q0, q1⟩ := pk_lt a.f 4 (by omega)
            obtain ⟨f, hfq⟩ : ∃ f : Nat, pk a.f 4 = f := ⟨(pk a.f 4).toNat, by omega⟩
            rw [hfq] at PA q0 q1
            have hf4 : f < 4 := by omega
            have hf0i : (0 : Int) ≤ (f : Int) := by omega
            have hf4i : (f : Int) < 4 := by omega
            rw [hav] at e4
            have HAV := hide hav
            have HAOK := hide aok
            have HAOK1 := hide aok1
            have HBIG := hide hBig
            have HALL := hide hall
            clear hcell ha hav hmem hfq aok aok1 X P hBig hall I
            by_cases hz : a.bs.length = 0
            · have hz' : ((a.bs.length : Int) == 0) = true := by simp [hz]
              obtain ⟨y1, y2, y3⟩ := pi_sync HP.out
              have HB1 : Big 100000000 900000 st := HBIG.out.mono (by omega) (by omega)
              have SY : Hid (Calls Try.prog 14 #[.pointer (some ⟨w1.heap.size, 0, none⟩)] wr fun E w' => E = .returned (.int .i64 (Dm.sync st).1) ∧ XI w1.heap.size w1.heap.size w2.heap.size (w2.heap.size + 1) w' (Dm.sync st).2 all sure ∧ Below w1.heap.size wr w') := hide (by
                refine (sync_any _ F wr st HX.out.dk (fun f => by have := HB1.1.1 f; omega) (by have := HB1.1.2.1; omega) HB1.2 (by have := HB1.1.2.2; omega)).mono ?_
                rintro E w' ⟨rfl, s⟩
                exact ⟨rfl, HX.out.disk sz s, by obtain ⟨_, _, o, _⟩ := s; exact o.below HX.out.ge sz⟩)
              have HB2 := hide ((big_sync HBIG.out).mono (show 400 * k ≤ 400 * (k + 1) by omega) (show 8 * k + 1 ≤ 8 * (k + 1) by omega))
              generalize Dm.sync st = r at y1 y2 y3 SY HB2
              obtain ⟨e', st'⟩ := r
              simp only at y1 y2 y3 SY HB2
              subst y1
              have HY2 := hide y2
              have HY3 := hide y3
              clear y2 y3 HB1
              go_wp2_with fail
              refine PA.out.mono ?_
              rintro E w' ⟨rfl, rfl⟩
              go_wp2_with fail
              refine SY.out.mono ?_
              rintro E wn ⟨rfl, XN, bn⟩
              obtain ⟨F', va', vs', XN⟩ := XN
              have HXN := hide XN
              clear XN
              go_wp2_with fail
              refine (pend_any _ F' wn st' HXN.out.dk).mono ?_
              rintro E w' ⟨rfl, rfl⟩
              rw [HY2.out]
              have XC := hide HXN.out.copy
              obtain ⟨a0, n0, k0, g0⟩ := (HXN.out.ra 0 (by omega)).1.form
              obtain ⟨a1, n1, k1, g1⟩ := (HXN.out.ra 1 (by omega)).1.form
              obtain ⟨a2, n2, k2, g2⟩ := (HXN.out.ra 2 (by omega)).1.form
              obtain ⟨a3, n3, k3, g3⟩ := (HXN.out.ra 3 (by omega)).1.form
              rw [g0, g1, g2, g3] at XC
              have bA := HXN.out.bA
              rw [g0, g1, g2, g3] at bA
              have bS := HXN.out.bS
              have x0 : wn.cell? ⟨w2.heap.size, 0, none⟩ = some (.slice a0 n0 k0) := blk_cell bA 0 rfl
              have x1 : wn.cell? ⟨w2.heap.size, 1, none⟩ = some (.slice a1 n1 k1) := blk_cell bA 1 rfl
              have x2 : wn.cell? ⟨w2.heap.size, 2, none⟩ = some (.slice a2 n2 k2) := blk_cell bA 2 rfl
              have x3 : wn.cell? ⟨w2.heap.size, 3, none⟩ = some (.slice a3 n3 k3) := blk_cell bA 3 rfl
              obtain ⟨V1, hV1⟩ : ∃ V1, wn.setCell ⟨w2.heap.size + 1, 0, none⟩ (.slice a0 n0 k0) = V1 := ⟨_, rfl⟩
              have t1 := set_cells bS 0 (.slice a0 n0 k0)
              rw [hV1] at t1 XC
              obtain ⟨V2, hV2⟩ : ∃ V2, V1.setCell ⟨w2.heap.size + 1, 1, none⟩ (.slice a1 n1 k1) = V2 := ⟨_, rfl⟩
              have t2 := set_cells t1 1 (.slice a1 n1 k1)
              rw [hV2] at t2 XC
              obtain ⟨V3, hV3⟩ : ∃ V3, V2.setCell ⟨w2.heap.size + 1, 2, none⟩ (.slice a2 n2 k2) = V3 := ⟨_, rfl⟩
              have t3 := set_cells t2 2 (.slice a2 n2 k2)
              rw [hV3] at t3 XC
              obtain ⟨V4, hV4⟩ : ∃ V4, V3.setCell ⟨w2.heap.size + 1, 3, none⟩ (.slice a3 n3 k3) = V4 := ⟨_, rfl⟩
              rw [hV4] at XC
              have p0 : wn.cell? ⟨w2.heap.size + 1, 0, none⟩ = some (vs' 0) := blk_cell bS 0 rfl
              have p1 : V1.cell? ⟨w2.heap.size + 1, 1, none⟩ = some (vs' 1) := blk_cell t1 1 rfl
              have p2 : V2.cell? ⟨w2.heap.size + 1, 2, none⟩ = some (vs' 2) := blk_cell t2 2 rfl
              have p3 : V3.cell? ⟨w2.heap.size + 1, 3, none⟩ = some (vs' 3) := blk_cell t3 3 rfl
              have r0 : wn.cell? ⟨w2.heap.size + 1, 1, none⟩ = some (vs' 1) := blk_cell bS 1 rfl
              have r1 : wn.cell? ⟨w2.heap.size + 1, 2, none⟩ = some (vs' 2) := blk_cell bS 2 rfl
              have r2 : wn.cell? ⟨w2.heap.size + 1, 3, none⟩ = some (vs' 3) := blk_cell bS 3 rfl
              have f0 := blk_froz bS 0
              have f1 := blk_froz bS 1
              have f2 := blk_froz bS 2
              have f3 := blk_froz bS 3
              have f1' := blk_froz t1 1
              have f2' := blk_froz t2 2
              have f3' := blk_froz t3 3
              have cn : Below w1.heap.size w1 V4 := by
                rw [← hV4, ← hV3, ← hV2, ← hV1]
                exact ((((bel.trans bn).grown (grown_setCell _ ⟨w2.heap.size + 1, 0, none⟩ _) (by have := (bel.trans bn).size; omega) fun k hk => by simp at hk; omega).grown (grown_setCell _ ⟨w2.heap.size + 1, 1, none⟩ _) (by simp [World.setCell]; have := (bel.trans bn).size; omega) fun k hk => by simp at hk; omega).grown (grown_setCell _ ⟨w2.heap.size + 1, 2, none⟩ _) (by simp [World.setCell]; have := (bel.trans bn).size; omega) fun k hk => by simp at hk; omega).grown (grown_setCell _ ⟨w2.heap.size + 1, 3, none⟩ _) (by simp [World.setCell]; have := (bel.trans bn).size; omega) fun k hk => by simp at hk; omega
              have I' : Hid (PX w1.heap.size w1.heap.size w2.heap.size (w2.heap.size + 1) (k + 1) V4) := hide ⟨_, _, _, XC.out, HY3.out, HB2.out, fun f => by have := HALL.out f; omega⟩
              clear t1 t2 t3 bA bS g0 g1 g2 g3 XC HY3 HY2 HB2 bn
              go_wp2
              go_roundw
              case rel => exact ⟨k + 1, by omega, by go_num, cn, I'⟩
              case measure => simp [intOf]; omega
            · have hz' : ((a.bs.length : Int) == 0) = false := beq_eq_false_iff_ne.2 (by omega)
              obtain ⟨y1, y3⟩ := pi_write HP.out f hf4 a.bs
              have hc7 := cnt_small hbs
              have HB1 : Big 100000000 900000 st := HBIG.out.mono (by omega) (by omega)
              have WR : Hid (Calls Try.prog 10 #[.pointer (some ⟨w1.heap.size, 0, none⟩), .int .i64 f, a.v] wr fun E w' => E = .returned (.int .i64 (Dm.write st f a.bs).1) ∧ XI w1.heap.size w1.heap.size w2.heap.size (w2.heap.size + 1) w' (Dm.write st f a.bs).2 all sure ∧ Below w1.heap.size wr w') := hide (by
                refine (write_any _ F wr st f a.v a.bs HX.out.dk HAOK.out.1 (fun h0 b hb hF => by have h1 := HAOK1.out.1.lt h0 b hb; have h2 := HX.out.ge b hF; omega) (by omega) (by have := HB1.1.2.1; omega) HB1.2 (by have := HB1.1.2.2; omega)).mono ?_
                rintro E w' ⟨rfl, s⟩
                exact ⟨rfl, HX.out.disk sz s, by obtain ⟨_, _, o, _⟩ := s; exact o.below HX.out.ge sz⟩)
              have HB2 := hide ((big_write HBIG.out f a.bs).mono (show 400 * k + a.bs.length ≤ 400 * (k + 1) by omega) (show 8 * k + cnt a.bs.length ≤ 8 * (k + 1) by omega))
              generalize Dm.write st f a.bs = r at y1 y3 WR HB2
              obtain ⟨e', st'⟩ := r
              simp only at y1 y3 WR HB2
              subst y1
              have HY3 := hide y3
              rw [HAV.out] at WR
              clear y3 HB1
              go_wp2_with fail
              refine PA.out.mono ?_
              rintro E w' ⟨rfl, rfl⟩
              go_wp2_with fail
              refine WR.out.mono ?_
              rintro E wn ⟨rfl, XN, bn⟩
              obtain ⟨F', va', vs', XN⟩ := XN
              have HXN := hide XN
              have cwn := bel.trans bn
              have szn := cwn.size
              have e4n := (bn.cell (p := ⟨b, off + k * 5 + 4, none⟩) hB).trans e4
              have isn : Is .u8 wn a.v a.bs := HAOK.out.1.agree fun g hg => bn.block g (HAOK1.out.1.lt (by omega) g hg)
              have xA := blk_four XN.bA f hf4
              have hAn : w2.heap.size < wn.heap.size := blk_lt XN.bA
              obtain ⟨fa, fn, fc, hfm⟩ := (XN.ra f hf4).1.form
              have hlall := HALL.out f
              have CP : Hid (Calls Try.prog 31 #[va' f] wn.drew fun E wc => ∃ v, E = .returned v ∧ (Own .u8 5 wn.heap.size wc v (all f) ∧ Below wn.heap.size wn wc ∧ wc.cell? ⟨b, off + k * 5 + 4, none⟩ = some (.slice av a.bs.length ac) ∧ wc.cell? ⟨w2.heap.size, f, none⟩ = some (va' f))) := hide (by
                refine (copy_any (va' f) (all f) wn.drew ((XN.ra f hf4).1.drewN 1) (by omega)).mono ?_
                rintro E wc ⟨v, rfl, own, bc⟩
                have bc' : Below wn.heap.size wn wc := (below_drewN (Below.refl _ _) 1).trans bc
                exact ⟨v, rfl, own, bc', (bc'.cell (p := ⟨b, off + k * 5 + 4, none⟩) (by show b < wn.heap.size; omega)).trans e4n, (bc'.cell (p := ⟨w2.heap.size, f, none⟩) hAn).trans xA⟩)
              have AP : Hid (∀ v wc, Own .u8 5 wn.heap.size wc v (all f) → Below wn.heap.size wn wc → ∀ ty, ∃ v' w', (Builtin.append_ #[27, 27] ty #[v, .slice av a.bs.length ac]).run Try.prog wc = .ok v' w' ∧ (PX w1.heap.size w1.heap.size w2.heap.size (w2.heap.size + 1) (k + 1) (w'.setCell ⟨w2.heap.size, f, none⟩ v') ∧ Below w1.heap.size w1 (w'.setCell ⟨w2.heap.size, f, none⟩ v') ∧ w'.cell? ⟨w2.heap.size, f, none⟩ = some (va' f) ∧ w'.frozen? ⟨w2.heap.size, f, none⟩ = false ∧ ∃ a n c, v' = .slice a n c)) := hide fun v wc own bc ty => by
                have isc := isn.below bc
                rw [HAV.out] at isc
                obtain ⟨v', w', hr, own', gr', at'⟩ := run_append_is_at (P := Try.prog) 27 ty .u8 5 wn.heap.size 1 Try.underlying27 Try.info5 (by decide) v (all f) own _ a.bs isc (by omega) bc.size
                have bw' : Below wn.heap.size wn w' := bc.grown gr' bc.size fun g hg => (own.block g hg).1
                have hA' := (bw'.block w2.heap.size hAn).trans XN.bA
                refine ⟨v', w', hr, ⟨st', _, sure, HXN.out.put hf4 bw' own', HY3.out, HB2.out, fun j => ?_⟩, ?_, blk_four hA' f hf4, blk_froz hA' f, own'.is.form⟩
                · unfold Dm.upd
                  split
                  · rw [List.length_append]; omega
                  · have := HALL.out j; omega
                · exact (cwn.trans (bw'.mono szn)).grown (grown_setCell w' ⟨w2.heap.size, f, none⟩ v') (by have := bw'.size; omega) fun k hk => by simp at hk; omega
              rw [hfm] at xA CP AP
              clear XN isn HY3 HB2 bn e1 hfm hB
              go_wp2_with fail
              go_region_law (first
                | (refine call_at rfl 31 #[.tmp 69] #[27] rfl Try.enters31 #[.slice fa fn fc] (by first | rfl | (simp [Act.eval]; done)) CP.out ?_; rintro vc wc ⟨ownc, bc, x4, xAc⟩; have OC := hide ownc)
                | (refine step_append_at rfl (.tmp 70) (.tmp 75) 27 rfl vc (.slice av a.bs.length ac) (by first | rfl | (simp [Act.eval]; done)) (by first | rfl | (simp [Act.eval]; done)) (AP.out vc wc OC.out bc) ?_; rintro vd wd ⟨J, cJ, xd, fd, ad, nd, cd, rfl⟩; have J := hide J))
              all_goals
                go_wp2
                go_roundw
                case rel => exact ⟨k + 1, by omega, by go_num, cJ, J⟩
                case measure => simp [intOf]; omega
          · have hlt' : ¬ (k : Int) < l.length := by omega
            obtain ⟨y1, y2, y3, y4⟩ := pi_end P kn tn
            have HB1 : Big 100000000 900000 st := hBig.mono (by omega) (by omega)
            have hall' : ∀ f, (all f).length ≤ 40000 := fun f => by have := hall f; omega
            have HALL := hide hall'
            have PU : Hid (Calls Try.prog 11 #[.pointer (some ⟨w1.heap.size, 0, none⟩)] wr fun E w' => E = .returned (.int .i64 (Dm.pull st).1) ∧ XI w1.heap.size w1.heap.size w2.heap.size (w2.heap.size + 1) w' (Dm.pull st).2 all sure ∧ Below w1.heap.size wr w') := hide (by
              refine (pull_any _ F wr st X.dk).mono ?_
              rintro E w' ⟨rfl, s⟩
              exact ⟨rfl, X.disk sz s, by obtain ⟨_, _, o, _⟩ := s; exact o.below X.ge sz⟩)
            have HB2 := hide (big_pull HB1)
            have HB3 := hide (big_start HB2.out kn tn)
            have ST : Hid (∀ wa F', Pk w1.heap.size F' wa (Dm.pull st).2 → Calls Try.prog 12 #[.pointer (some ⟨w1.heap.size, 0, none⟩), .int .i64 kn, .int .i64 tn] wa fun E w' => E = .returned (.int .i64 (Dm.start (Dm.pull st).2 kn tn).1) ∧ PStep w1.heap.size F' wa w' (Dm.start (Dm.pull st).2 kn tn).2) := hide fun wa F' hP =>
              start_any _ F' wa _ kn tn hP ht64 (fun f => by have := HB2.out.1.1 f; omega) (by have := HB2.out.1.2.1; omega)
            generalize Dm.start (Dm.pull st).2 kn tn = r2 at y2 y3 y4 ST HB3
            generalize Dm.pull st = r1 at y1 PU ST HB2
            obtain ⟨e1', st1⟩ := r1
            obtain ⟨e2', st2⟩ := r2
            simp only at y1 y2 y3 y4 PU ST HB2 HB3
            subst y1 y2
            have HY3 := hide y3
            have HY4 := hide y4
            clear X P hBig hall hall' HB1 y3 y4 I HP
            go_wp2_with fail
            refine PU.out.mono ?_
            rintro E wa ⟨rfl, ⟨Fa, vaa, vsa, XA⟩, ba⟩
            have HXA := hide XA
            have sza : w1.heap.size ≤ wa.heap.size := (bel.trans ba).size
            have STA := hide (ST.out wa Fa XA.dk)
            clear XA
            go_wp2_with fail
            refine STA.out.mono ?_
            rintro E wb ⟨rfl, sb⟩
            have bb : Below w1.heap.size wa wb := by obtain ⟨_, _, o, _⟩ := sb; exact o.below HXA.out.ge sza
            obtain ⟨Fb, vab, vsb, XB⟩ := HXA.out.disk sza sb
            have HXB := hide XB
            have cb : Below w1.heap.size w1 wb := (bel.trans ba).trans bb
            have szb := cb.size
            clear XB sb ba bb
            go_wp2_with fail
            refine (pend_any _ Fb wb st2 HXB.out.dk).mono ?_
            rintro E w' ⟨rfl, rfl⟩
            rw [HY3.out]
            go_wp2
            go_loopw [12, 13, 14] (fun iv _ _ wr => ∃ q : Nat, q ≤ 4 ∧ iv = .int .i64 q ∧ Below wb.heap.size wb wr) (fun iv _ _ _ => 4 - (intOf iv).toNat)
            case atStart => exact ⟨0, by omega, rfl, Below.refl _ _⟩
            case round =>
              obtain ⟨q, hq, rfl, bq⟩ := hrel
              have szq := bq.size
              have XQ := HXB.out.below bq
              by_cases hq4 : q < 4
              · have hq4' : (q : Int) < 4 := by omega
                have hq0' : (0 : Int) ≤ (q : Int) := by omega
                obtain ⟨z1, z2, z3, z4⟩ := HY4.out q hq4
                have hdl : (duB st2 q).length ≤ 40000 := Nat.le_trans z3.length_le (HALL.out q)
                have hsl : (sure q).length ≤ 40000 := Nat.le_trans z4.length_le hdl
                have xA := blk_four XQ.bA q hq4
                have xS := blk_four XQ.bS q hq4
                have hAq : w2.heap.size < wr.heap.size := blk_lt XQ.bA
                have hSq : w2.heap.size + 1 < wr.heap.size := blk_lt XQ.bS
                obtain ⟨fa, fn, fc, hfa⟩ := (XQ.ra q hq4).1.form
                obtain ⟨ga, gn, gc, hga⟩ := (XQ.rs q hq4).1.form
                have RD := hide (read_any _ Fb wr st2 q XQ.dk (fun f => by have := HB3.out.1.1 f; omega) (by have := HB3.out.1.2.1; omega))
                rw [z1, z2] at RD
                have DU := hide (fun wx (hb : Below wr.heap.size wr wx) => durable_any _ Fb wx st2 q (XQ.dk.below hb) (fun f => by have := HB3.out.1.1 f; omega))
                have HA4 := hide (XQ.ra q hq4).1
                have HS4 := hide (XQ.rs q hq4).1
                rw [hfa] at xA HA4
                rw [hga] at xS HS4
                have Z3 := hide z3
                have Z4 := hide z4
                clear XQ z1 z2 z3 z4 hfa hga
                generalize duB st2 q = ds at RD DU Z3 Z4 hdl
                go_wp2_with fail
                refine RD.out.mono ?_
                rintro E w5 ⟨v5, rfl, own5, b5⟩
                obtain ⟨a5, k5, hv5, _, _⟩ := own5.is.shape
                subst hv5
                have x5 := (b5.cell (p := ⟨w2.heap.size, q, none⟩) hAq).trans xA
                have HO5 := hide own5
                clear own5
                go_wp2_with fail
                refine (begins_yes _ _ (all q) ds w5 (HA4.out.below b5) HO5.out.is (by have := HALL.out q; omega) Z3.out).mono ?_
                rintro E w6 ⟨rfl, b6⟩
                have b56 : Below wr.heap.size wr w6 := b5.trans (b6.mono b5.size)
                have x6 := (b56.cell (p := ⟨w2.heap.size + 1, q, none⟩) hSq).trans xS
                clear x5
                go_wp2_with fail
                refine (begins_yes _ _ ds (sure q) w6 (HO5.out.is.below b6) (HS4.out.below b56) (by omega) Z4.out).mono ?_
                rintro E w7 ⟨rfl, b7⟩
                have b57 : Below wr.heap.size wr w7 := b56.trans (b7.mono b56.size)
                clear x6
                go_wp2_with fail
                refine (DU.out w7 b57).mono ?_
                rintro E w8 ⟨v8, rfl, own8, b8⟩
                have b58 : Below w5.heap.size w5 w8 := (b6.trans (b7.mono b6.size)).trans (b8.mono (b6.trans (b7.mono b6.size)).size)
                have HO8 := hide own8
                clear own8
                go_wp2_with fail
                refine (same_yes _ v8 ds ds w8 (HO5.out.is.below b58) HO8.out.is (by omega) rfl).mono ?_
                rintro E w9 ⟨rfl, b9⟩
                have b59 : Below wb.heap.size wb w9 := bq.trans (((b57.trans (b8.mono b57.size)).trans (b9.mono (b57.trans (b8.mono b57.size)).size)).mono szq)
                go_wp2
                go_roundw
                case rel => exact ⟨q + 1, by omega, by go_num, b59⟩
                case measure => simp [intOf]; omega
              · have hq4' : ¬ (q : Int) < 4 := by omega
                have cz : Below w.heap.size w wr := b1.trans ((cb.trans (bq.mono szb)).mono s1)
                clear XQ
                go_wp2
                go_ret
                exact ⟨rfl, cz⟩

end Go.Proofs.Yteklbnonikccaaa
