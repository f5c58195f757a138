/- Texts of one layer, one behind the other. -/
import Derived.Test.YtkpnkknolobioaaGreatG23
import Derived.Test.YtkpnkknolobioaaGreatG24
import Derived.Test.YtkpnkknolobioaaGreatG17
import Derived.Test.YtkpnkknolobioaaGreatG22
import Derived.Test.YtkpnkknolobioaaGreatG21
import Derived.Test.YtkpnkknolobioaaGreatZPj
import Derived.Test.YtkpnkknolobioaaGreatProg
import Derived.Test.YtkpnkknolobioaaGreatG2
/- The document's disk: Start. -/
namespace Go.Proofs.YtkpnkknolobioaaGreat
open Go.RowKit Go.Shelf
set_option linter.unusedVariables false

/-- The last steps of Start. -/
theorem finR_tail {p : Nat} {F : Nat → Prop} {w : World} {st : Dm.Ds} {s : Nat → Value} {wv : Value} {rs : List Rv} (D : DkW p F w st s wv rs) :
    ∃ V1 V2 V3, w.setCell ⟨p, 5, none⟩ (.slice none 0 0) = V1 ∧ V1.setCell ⟨p, 7, none⟩ (.bool false) = V2 ∧ V2.setCell ⟨p, 6, none⟩ (.bool true) = V3 ∧ (w.cell? ⟨p, 5, none⟩ = some wv ∧ w.frozen? ⟨p, 5, none⟩ = false) ∧ (V1.cell? ⟨p, 7, none⟩ = some (.bool st.has) ∧ V1.frozen? ⟨p, 7, none⟩ = false) ∧ (V2.cell? ⟨p, 6, none⟩ = some (.bool st.on) ∧ V2.frozen? ⟨p, 6, none⟩ = false) ∧
      Dk p F V3 { st with wait := [], has := false, on := true } ∧ Out (fun g => g = p) w V3 := by
  obtain ⟨A1, B1⟩ := DkW.put (F := F) (st' := { st with wait := [] }) (s' := s) (wv' := .slice none 0 0) (rs' := []) D.blk D.inp D.lt 5 (.slice none 0 0) rfl D.file (OwnG.nil _ _ _ _ _) (fun b hb => by simp [Value.ownBlock] at hb) (fun r hr => by simp at hr) rfl
  obtain ⟨A2, B2⟩ := DkW.put (F := F) (st' := { st with wait := [], has := false }) (s' := s) (wv' := .slice none 0 0) (rs' := []) A1.blk A1.inp A1.lt 7 (.bool false) rfl A1.file A1.row A1.inr A1.raw rfl
  obtain ⟨A3, B3⟩ := DkW.put (F := F) (st' := { st with wait := [], has := false, on := true }) (s' := s) (wv' := .slice none 0 0) (rs' := []) A2.blk A2.inp A2.lt 6 (.bool true) rfl A2.file A2.row A2.inr A2.raw rfl
  exact ⟨_, _, _, rfl, rfl, rfl, ⟨blk_cell D.blk 5 rfl, blk_froz D.blk 5⟩, ⟨blk_cell A1.blk 7 rfl, blk_froz A1.blk 7⟩, ⟨blk_cell A2.blk 6 rfl, blk_froz A2.blk 6⟩, ⟨s, _, [], A3.toV trivial⟩, (B1.trans B2 fun g hg => .inl hg).trans B3 fun g hg => .inl hg⟩

/-- What Start leaves. -/
theorem finR_step {p : Nat} {F F1 : Nat → Prop} {w w1 w2 : World} {st' : Dm.Ds} (hD : Dk p F1 w2 st') (hO : Out F w w1) (hS : ∀ g, F1 g → F g ∨ w.heap.size ≤ g) (hp : F1 p) (h2 : Out (fun g => g = p) w1 w2) : DStep p F w w2 st' :=
  ⟨F1, hD, hO.trans h2 fun g hg => hg ▸ hS p hp, hS⟩

set_option maxRecDepth 100000 in
set_option maxHeartbeats 8000000 in
theorem startR_any (p : Nat) (F : Nat → Prop) (w : World) (st : Dm.Ds) (k t : Int) (h : Dk p F w st) (hk9 : k ≤ 9223372036854775807) (ht9 : t ≤ 9223372036854775807) (hsz : ∀ f, (st.sure f).length + Dm.bulk st.wait ≤ 140737488355000) (hlen : st.wait.length ≤ 1000000) :
    Calls Tryz.prog 25 #[.pointer (some ⟨p, 0, none⟩), .int .i64 k, .int .i64 t] w fun E w' => E = .returned (.int .i64 (Dm.start st k t).1) ∧ DStep p F w w' (Dm.start st k t).2 := by
  have HA := hide (noneR_any p F w st h)
  have HK := hide h
  obtain ⟨s, wv, rs, h⟩ := h
  have c6 := h.c6
  unfold Dm.start
  cases hon : st.on
  · rw [hon] at c6
    by_cases hk : k < 0
    · rw [if_pos (.inr (.inl hk))]
      clear h hon
      go_enter Tryz.func25, Tryz.ntmps25
      go_wp2_with fail
      refine HA.out.mono ?_
      rintro E w1 ⟨rfl, rfl⟩
      go_wp2
      go_ret
      exact ⟨rfl, DStep.same HK.out (Below.refl _ _)⟩
    · by_cases htn : t < 0
      · rw [if_pos (.inr (.inr htn))]
        clear h hon
        go_enter Tryz.func25, Tryz.ntmps25
        go_wp2_with fail
        refine HA.out.mono ?_
        rintro E w1 ⟨rfl, rfl⟩
        go_wp2
        go_ret
        exact ⟨rfl, DStep.same HK.out (Below.refl _ _)⟩
      · rw [if_neg (by simp; omega)]
        obtain ⟨kn, rfl⟩ : ∃ x : Nat, k = x := ⟨k.toNat, by omega⟩
        obtain ⟨tn, rfl⟩ : ∃ x : Nat, t = x := ⟨t.toNat, by omega⟩
        simp only [Int.toNat_natCast]
        have KP := hide (keepR_any p F w st kn (by omega) HK.out hsz hlen)
        have hk' : ¬ (kn : Int) < 0 := hk
        have ht' : ¬ (tn : Int) < 0 := htn
        have HOK := hide h.ok
        clear h hon hk htn
        go_enter Tryz.func25, Tryz.ntmps25
        go_wp2_with fail
        refine HA.out.mono ?_
        rintro E w1 ⟨rfl, rfl⟩
        go_wp2_with fail
        refine KP.out.mono ?_
        rintro E w4 ⟨⟨v4, rfl⟩, wv4, rs4, s4, F4, D4, O4, S4⟩
        have hwt : rs4.map Rv.r = st.wait := D4.wait
        have hl4 : st.wait.length = rs4.length := by rw [← hwt, List.length_map]
        obtain ⟨ao, cap, hv, hcap, hcm⟩ := D4.row.row.shape
        have c5 : w4.cell? ⟨p, 5, none⟩ = some wv4 := blk_cell D4.blk 5 rfl
        rw [hv] at c5
        have HD4 := hide D4
        have HO4 := hide O4
        have HS4 := hide S4
        by_cases hlt : kn < rs4.length
        · obtain ⟨r, hr⟩ : ∃ r, rs4[kn]? = some r := ⟨rs4[kn], by rw [List.getElem?_eq_getElem]⟩
          have hst : st.wait[kn]? = some r.r := by rw [← hwt, List.getElem?_map, hr]; rfl
          obtain ⟨g, hao, hg⟩ : ∃ b, ao = some ⟨b, 0, none⟩ ∧ wv4.ownBlock = some b := by
            rcases D4.row.2 with ⟨_, h1⟩ | ⟨g, cap', cur, h1, _⟩
            · omega
            · rw [hv] at h1
              simp only [Value.slice.injEq, true_and] at h1
              exact ⟨g, h1.1, by rw [hv, h1.1]; rfl⟩
          subst hao
          have hcell := fun j u hj => D4.row.cells hg (kn * 4 + j) u (gcells_at rawc_len rs4 kn r hr j u hj)
          have e0 : w4.cell? ⟨g, kn * 4, none⟩ = some (.int .i64 r.file) := by have := hcell 0 _ rfl; rwa [add_at, Nat.zero_add] at this
          have e1 : w4.cell? ⟨g, kn * 4 + 1, none⟩ = some (.bool r.cut) := by have := hcell 1 _ rfl; rwa [add_at, Nat.zero_add] at this
          have e2 : w4.cell? ⟨g, kn * 4 + 2, none⟩ = some (.int .i64 r.to) := by have := hcell 2 _ rfl; rwa [add_at, Nat.zero_add] at this
          have e3 : w4.cell? ⟨g, kn * 4 + 3, none⟩ = some r.v := by have := hcell 3 _ rfl; rwa [add_at, Nat.zero_add] at this
          have hlt' : (kn : Int) < rs4.length := by omega
          have hk0 : (0 : Int) ≤ (kn : Int) := by omega
          cases hc : r.cut
          · rw [hc] at e1
            have hfit := Dm.valid_at HOK.out hst
            have hf : r.file < 4 := hfit.1
            have hbn : 1 ≤ r.bytes.length := (hfit.2.2 hc).1
            have hbn2 : r.bytes.length ≤ 64 := (hfit.2.2 hc).2
            obtain ⟨q, hq⟩ : ∃ q, q = min tn (r.bytes.length - 1) := ⟨_, rfl⟩
            have hql : q ≤ r.bytes.length := by omega
            have isr := (D4.raw r (List.mem_of_getElem? hr)).1
            obtain ⟨b, off, cr, hrv, hcr, hcrm, hbw, _⟩ := isr.full (by omega)
            obtain ⟨V, hV, hV2, szV, belV, bV, x0, x1, x2, x3⟩ := new_four w4 72 (.int .i64 0) (.bool false) (.int .i64 0) (.slice none 0 0) (.int .i64 r.file) (.bool false) (.int .i64 r.to) (.slice (some ⟨b, off, none⟩) r.bytes.length cr)
            have isq : Is .u8 w4 (.slice (some ⟨b, off, none⟩) q cr) (r.bytes.take q) := by
              rw [hrv] at isr
              exact isr.cut q hql
            have hp : p < w4.heap.size := blk_lt D4.blk
            have cfv : V.cell? ⟨p, 1 + r.file, none⟩ = some (s4 r.file) := (belV.cell (p := ⟨p, 1 + r.file, none⟩) hp).trans (by
              rcases (show r.file = 0 ∨ r.file = 1 ∨ r.file = 2 ∨ r.file = 3 by omega) with e | e | e | e <;> rw [e]
              · exact blk_cell D4.blk 1 rfl
              · exact blk_cell D4.blk 2 rfl
              · exact blk_cell D4.blk 3 rfl
              · exact blk_cell D4.blk 4 rfl)
            obtain ⟨af, nf, cpf, hsf⟩ := (D4.file r.file hf).1.form
            have hszf := hsz r.file
            have hdl := dof_len st.sure (st.wait.take kn) r.file
            have hbt := bulk_at hst
            have et : Dm.kept st kn tn = Dm.upd (Dm.dof st.sure (st.wait.take kn)) r.file (Dm.wth (Dm.dof st.sure (st.wait.take kn) r.file) (Rv.r ⟨r.file, false, 0, .slice (some ⟨b, off, none⟩) q cr, r.bytes.take q⟩)) := by
              unfold Dm.kept
              rw [hst]
              simp only [Rv.r, hc]
              rw [if_neg (by simp), hq]
              rfl
            have BI : Hid (Calls Tryz.prog 53 #[s4 r.file, .agg #[.int .i64 r.file, .bool false, .int .i64 0, .slice (some ⟨b, off, none⟩) q cr]] V.drew fun E w2 => ∃ v2, E = .returned v2 ∧ ((∃ s5 F5, DkW p F5 (w2.setCell ⟨p, 1 + r.file, none⟩ v2) { st with sure := Dm.kept st kn tn } s5 wv4 rs4 ∧ Out F w (w2.setCell ⟨p, 1 + r.file, none⟩ v2) ∧ ∀ g, F5 g → F g ∨ w.heap.size ≤ g) ∧ (w2.cell? ⟨w4.heap.size, 0, none⟩ = some (.int .i64 r.file) ∧ w2.cell? ⟨w4.heap.size, 3, none⟩ = some (.slice (some ⟨b, off, none⟩) r.bytes.length cr)) ∧ ((w2.setCell ⟨p, 1 + r.file, none⟩ v2).cell? ⟨w4.heap.size, 0, none⟩ = some (.int .i64 r.file) ∧ (w2.setCell ⟨p, 1 + r.file, none⟩ v2).cell? ⟨w4.heap.size, 3, none⟩ = some (.slice (some ⟨b, off, none⟩) r.bytes.length cr)) ∧ w2.cell? ⟨p, 1 + r.file, none⟩ = some (s4 r.file) ∧ w2.frozen? ⟨p, 1 + r.file, none⟩ = false ∧ ∃ a n c, v2 = .slice a n c)) := hide (by
              refine (withR_any (s4 r.file) _ ⟨r.file, false, 0, .slice (some ⟨b, off, none⟩) q cr, r.bytes.take q⟩ V.drew (((D4.file r.file hf).1.below belV).drewN 1) ((isq.below belV).drewN 1) (fun hc => by simp at hc) (by
                show (Dm.dof st.sure (st.wait.take kn) r.file).length + (r.bytes.take q).length ≤ _
                simp only [List.length_take]
                have : r.r.bytes = r.bytes := rfl
                rw [this] at hbt
                omega)).mono ?_
              rintro E w2 ⟨v2, rfl, own2, bel2⟩
              have belV' : Below V.heap.size V w2 := (below_drewN (Below.refl _ _) 1).trans bel2
              have belW : Below w4.heap.size w4 w2 := belV.trans (belV'.mono (by omega))
              have hb2 := (belV'.block w4.heap.size (by omega)).trans bV
              have hp2 := (belW.block p hp).trans D4.blk
              have hb3 := (Below.heap_setCell w2 ⟨p, 1 + r.file, none⟩ v2 w4.heap.size (by show w4.heap.size ≠ p; omega)).trans hb2
              obtain ⟨q1, q2⟩ := D4.files hf belW (own2.rebase (show w4.heap.size ≤ V.drew.heap.size by show w4.heap.size ≤ V.heap.size; omega))
              refine ⟨v2, rfl, ⟨_, _, by rw [et]; exact q1, HO4.out.trans q2 HS4.out, fun g hg => ?_⟩, ⟨blk_cell hb2 0 rfl, blk_cell hb2 3 rfl⟩, ⟨blk_cell hb3 0 rfl, blk_cell hb3 3 rfl⟩, (belV'.cell (p := ⟨p, 1 + r.file, none⟩) (by show p < V.heap.size; omega)).trans cfv, blk_froz hp2 _, own2.is.form⟩
              rcases hg with hg | hg
              · exact HS4.out g hg
              · have h1 := (own2.block g hg).1
                have h2 : V.drew.heap.size = V.heap.size := rfl
                exact .inr (by have := HO4.out.size; omega))
            have hf0 : (0 : Int) ≤ (r.file : Int) := by omega
            have hf4 : (r.file : Int) < 4 := by omega
            have hcr0 : ¬ cr = 0 := by omega
            have hwr : IntKind.i64.wrap ((r.bytes.length : Int) - 1) = (r.bytes.length : Int) - 1 := wrap64s _ (by omega) (by omega)
            have hmin : (if (r.bytes.length : Int) - 1 < (tn : Int) then (r.bytes.length : Int) - 1 else (tn : Int)) = (q : Int) := by split <;> omega
            have hq0 : (0 : Int) ≤ (q : Int) := by omega
            have hqc : (q : Int) ≤ cr := by omega
            rw [hsf] at cfv BI
            rw [hrv] at e3
            clear hcell hr hst hfit hszf isr isq hsf hg et bV hrv hq hwt hl4 hv D4 O4 S4 hdl hbt hc
            go_wp2_with fail
            refine wp_region_held_drew (S := (fun w' => w'.cell? ⟨w4.heap.size, 0, none⟩ = some (.int .i64 r.file) ∧ w'.cell? ⟨w4.heap.size, 3, none⟩ = some (.slice (some ⟨b, off, none⟩) r.bytes.length cr))) (by kernel_rfl) ⟨x0, x3⟩ (fun hHeld => ?_)
            refine wpAnyH_take (i := 0) (v := ?v0) rfl (by kernel_rfl) (by kernel_rfl) (by kernel_rfl) (fun _ _ _ h => h) (Or.inl ⟨by rfl, ?y0⟩) (by assumption) ?r0
            case y0 => (intro w hSw; (try dsimp only at hSw); go_simp <;> (with_reducible rfl))
            refine wpAnyH_take (i := 1) (v := ?v1) rfl (by kernel_rfl) (by kernel_rfl) (by kernel_rfl) (fun _ _ _ h => h) (Or.inl ⟨by rfl, ?y1⟩) (by assumption) ?r1
            case y1 => (intro w hSw; (try dsimp only at hSw); go_simp <;> (with_reducible rfl))
            refine wpAnyH_take (i := 2) (v := ?v2) rfl (by kernel_rfl) (by kernel_rfl) (by kernel_rfl) (fun _ _ _ h => h) (Or.inl ⟨by rfl, ?y2⟩) (by assumption) ?r2
            case y2 => (intro w hSw; (try dsimp only at hSw); go_simp <;> (with_reducible rfl))
            refine wpAnyH_take (i := 3) (v := ?v3) rfl (by kernel_rfl) (by kernel_rfl) (by kernel_rfl) (fun _ _ _ h => h) (Or.inl ⟨by rfl, ?y3⟩) (by assumption) ?r3
            case y3 => (intro w hSw; (try dsimp only at hSw); go_simp <;> (with_reducible rfl))
            refine wpAnyH_take (i := 4) (v := ?v4) rfl (by kernel_rfl) (by kernel_rfl) (by kernel_rfl) (fun _ _ _ h => h) (Or.inl ⟨by rfl, ?y4⟩) (by assumption) ?r4
            case y4 => (intro w hSw; (try dsimp only at hSw); go_simp <;> (with_reducible rfl))
            refine wpAnyH_take (i := 5) (v := ?v5) rfl (by kernel_rfl) (by kernel_rfl) (by kernel_rfl) (fun _ _ _ h => h) (Or.inl ⟨by rfl, ?y5⟩) (by assumption) ?r5
            case y5 => (intro w hSw; (try dsimp only at hSw); go_simp <;> (with_reducible rfl))
            refine wpAnyH_take (i := 6) (v := ?v6) rfl (by kernel_rfl) (by kernel_rfl) (by kernel_rfl) (fun _ _ _ h => h) (Or.inl ⟨by rfl, ?y6⟩) (by assumption) ?r6
            case y6 => (intro w hSw; (try dsimp only at hSw); go_simp <;> (with_reducible rfl))
            refine wpAnyH_take (i := 7) (v := ?v7) rfl (by kernel_rfl) (by kernel_rfl) (by kernel_rfl) (fun _ _ _ h => h) (Or.inl ⟨by rfl, ?y7⟩) (by assumption) ?r7
            case y7 => (intro w hSw; (try dsimp only at hSw); go_simp <;> (with_reducible rfl))
            refine wpAnyH_take (i := 8) (v := ?v8) rfl (by kernel_rfl) (by kernel_rfl) (by kernel_rfl) (fun _ _ _ h => h) (Or.inl ⟨by rfl, ?y8⟩) (by assumption) ?r8
            case y8 => (intro w hSw; (try dsimp only at hSw); go_simp <;> (with_reducible rfl))
            refine wpAnyH_take (i := 10) (v := ?v10) rfl (by kernel_rfl) (by kernel_rfl) (by kernel_rfl) (fun _ _ _ h => h) (Or.inl ⟨by rfl, ?y10⟩) (by assumption) ?r10
            case y10 => (intro w hSw; (try dsimp only at hSw); go_simp <;> (with_reducible rfl))
            refine wpAnyH_take (i := 11) (v := ?v11) rfl (by kernel_rfl) (by kernel_rfl) (by kernel_rfl) (fun _ _ _ h => h) (Or.inl ⟨by rfl, ?y11⟩) (by assumption) ?r11
            case y11 => (intro w hSw; (try dsimp only at hSw); go_simp <;> (with_reducible rfl))
            refine wpAnyH_take (i := 12) (v := ?v12) rfl (by kernel_rfl) (by kernel_rfl) (by kernel_rfl) (fun _ _ _ h => h) (Or.inl ⟨by rfl, ?y12⟩) (by assumption) ?r12
            case y12 => (intro w hSw; (try dsimp only at hSw); go_simp <;> (with_reducible rfl))
            refine wpAnyH_take (i := 13) (v := ?v13) rfl (by kernel_rfl) (by kernel_rfl) (by kernel_rfl) (fun _ _ _ h => h) (Or.inl ⟨by rfl, ?y13⟩) (by assumption) ?r13
            case y13 => (intro w hSw; (try dsimp only at hSw); go_simp <;> (with_reducible rfl))
            refine wpAnyH_take (i := 14) (v := ?v14) rfl (by kernel_rfl) (by kernel_rfl) (by kernel_rfl) (fun _ _ _ h => h) (Or.inl ⟨by rfl, ?y14⟩) (by assumption) ?r14
            case y14 => (intro w hSw; (try dsimp only at hSw); go_simp <;> (with_reducible rfl))
            refine wpAnyH_take (i := 15) (v := ?v15) rfl (by kernel_rfl) (by kernel_rfl) (by kernel_rfl) (fun _ _ _ h => h) (Or.inl ⟨by rfl, ?y15⟩) (by assumption) ?r15
            case y15 => (intro w hSw; (try dsimp only at hSw); go_simp <;> (with_reducible rfl))
            refine wpAnyH_take (i := 16) (v := ?v16) rfl (by kernel_rfl) (by kernel_rfl) (by kernel_rfl) (fun _ _ _ h => h) (Or.inl ⟨by rfl, ?y16⟩) (by assumption) ?r16
            case y16 => (intro w hSw; (try dsimp only at hSw); go_simp <;> (with_reducible rfl))
            refine wpAnyH_take (i := 18) (v := ?v18) rfl (by kernel_rfl) (by kernel_rfl) (by kernel_rfl) (fun _ _ _ h => h) (Or.inl ⟨by rfl, ?y18⟩) (by assumption) ?r18
            case y18 => (intro w hSw; (try dsimp only at hSw); go_simp <;> (with_reducible rfl))
            refine wpAnyH_take (i := 19) (v := ?v19) rfl (by kernel_rfl) (by kernel_rfl) (by kernel_rfl) (fun _ _ _ h => h) (Or.inl ⟨by rfl, ?y19⟩) (by assumption) ?r19
            case y19 => (intro w hSw; (try dsimp only at hSw); go_simp <;> (with_reducible rfl))
            refine wpAnyH_ready (rs := [9]) (by kernel_rfl) (by simp) ?_
            refine AllReadyH.cons rfl (fun K hK => ?_) AllReadyH.nil
            go_simp
            refine hK.out _ _ ⟨x0, x3⟩ (fun hHeld => ?_)
            clear hK K
            refine wpAnyH_ready (rs := [17]) (by kernel_rfl) (by simp) ?_
            refine AllReadyH.cons rfl (fun K hK => ?_) AllReadyH.nil
            refine call_at rfl 53 #[.tmp 66, .tmp 73] #[22, 72] rfl Tryz.enters53 #[.slice af nf cpf, .agg #[.int .i64 r.file, .bool false, .int .i64 0, .slice (some ⟨b, off, none⟩) q cr]] (by first | (simp [Act.eval]; done) | (simp [Act.eval, Act.put]; done)) BI.out ?_
            rintro v2 w2 ⟨J, ⟨y0, y3⟩, ⟨z0, z3⟩, cp2, fp2, a2, n2, c2, rfl⟩
            have J := hide J
            refine hK.out _ _ ⟨y0, y3⟩ (fun hHeld => ?_)
            clear hK K
            refine wpAnyH_take (i := 20) (v := ?v20) rfl (by kernel_rfl) (by kernel_rfl) (by kernel_rfl) (fun _ _ _ h => h) (Or.inl ⟨by rfl, ?y20⟩) (by assumption) ?r20
            case y20 => (intro w hSw; (try dsimp only at hSw); go_simp <;> (with_reducible rfl))
            refine wpAnyH_ready (rs := [21]) (by kernel_rfl) (by simp) ?_
            refine AllReadyH.cons rfl (fun K hK => ?_) AllReadyH.nil
            go_simp
            refine hK.out _ _ ⟨z0, z3⟩ (fun hHeld => ?_)
            clear hK K
            refine wpAnyH_done (by kernel_rfl) ?_ _
            all_goals
              obtain ⟨s5, F5, D5, O5, S5⟩ := J.out
              obtain ⟨W5, hW5⟩ : ∃ W5, w2.setCell ⟨p, 1 + r.file, none⟩ (.slice a2 n2 c2) = W5 := ⟨_, rfl⟩
              rw [hW5] at D5 O5
              obtain ⟨V1, V2, V3, g1, g2, g3, ⟨i1, i2⟩, ⟨i3, i4⟩, ⟨i5, i6⟩, KF, OF⟩ := finR_tail D5
              have JF : Hid (DStep p F w V3 { st with sure := Dm.kept st kn tn, wait := [], has := false, on := true }) := hide (finR_step KF O5 S5 D5.inp OF)
              clear D5 O5 S5 KF OF J
              go_wp2
              go_ret
              exact ⟨rfl, JF.out⟩
          · rw [hc] at e1
            have et : Dm.dof st.sure (st.wait.take kn) = Dm.kept st kn tn := by
              unfold Dm.kept
              rw [hst]
              simp only [Rv.r, hc, if_true]
            rw [et] at D4
            obtain ⟨V1, V2, V3, g1, g2, g3, ⟨i1, i2⟩, ⟨i3, i4⟩, ⟨i5, i6⟩, KF, OF⟩ := finR_tail D4
            have JF : Hid (DStep p F w V3 { st with sure := Dm.kept st kn tn, wait := [], has := false, on := true }) := hide (finR_step KF O4 S4 D4.inp OF)
            rw [hv] at i1
            clear hcell hr hst hg et hwt hl4 hv D4 O4 S4 KF OF hc HD4
            go_wp2
            go_ret
            exact ⟨rfl, JF.out⟩
        · have hlt' : ¬ (kn : Int) < rs4.length := by omega
          have et : Dm.dof st.sure (st.wait.take kn) = Dm.kept st kn tn := by
            unfold Dm.kept
            rw [List.getElem?_eq_none (by omega)]
          rw [et] at D4
          obtain ⟨V1, V2, V3, g1, g2, g3, ⟨i1, i2⟩, ⟨i3, i4⟩, ⟨i5, i6⟩, KF, OF⟩ := finR_tail D4
          have JF : Hid (DStep p F w V3 { st with sure := Dm.kept st kn tn, wait := [], has := false, on := true }) := hide (finR_step KF O4 S4 D4.inp OF)
          rw [hv] at i1
          clear et hwt hl4 hv D4 O4 S4 KF OF HD4
          go_wp2
          go_ret
          exact ⟨rfl, JF.out⟩
  · rw [hon] at c6
    rw [if_pos (.inl rfl)]
    clear h hon
    go_enter Tryz.func25, Tryz.ntmps25
    go_wp2_with fail
    refine HA.out.mono ?_
    rintro E w1 ⟨rfl, rfl⟩
    go_wp2
    go_ret
    exact ⟨rfl, DStep.same HK.out (Below.refl _ _)⟩

end Go.Proofs.YtkpnkknolobioaaGreat

/- OrphanWrite: the program's disk and the document's, beside one another (layer 19). -/
namespace Go.Proofs.YtkpnkknolobioaaGreat
open Go.RowKit
set_option linter.unusedVariables false

/-- Both disks, made at w0 or later, apart. -/
structure PQ (w0 W : World) (p q : Nat) (st su : Dm.Ds) : Prop where
  ex : ∃ F G, Pk p F W st ∧ Dk q G W su ∧ (∀ g, F g → ¬ G g) ∧ (∀ g, F g → w0.heap.size ≤ g) ∧ (∀ g, G g → w0.heap.size ≤ g)
  bel : Below w0.heap.size w0 W

theorem PQ.below {w0 W W' : World} {p q : Nat} {st su : Dm.Ds} (h : PQ w0 W p q st su) (hb : Below W.heap.size W W') : PQ w0 W' p q st su := by
  obtain ⟨F, G, h1, h2, h3, h4, h5⟩ := h.ex
  exact ⟨⟨F, G, h1.below hb, h2.below hb, h3, h4, h5⟩, h.bel.trans (hb.mono h.bel.size)⟩

/-- A step of the program's. -/
theorem PQ.stepP {w0 W W' : World} {p q : Nat} {st su st' : Dm.Ds} {F G : Nat → Prop} (h1 : Pk p F W st) (h2 : Dk q G W su) (h3 : ∀ g, F g → ¬ G g) (h4 : ∀ g, F g → w0.heap.size ≤ g) (h5 : ∀ g, G g → w0.heap.size ≤ g) (hb : Below w0.heap.size w0 W) (hs : PStep p F W W' st') : PQ w0 W' p q st' su := by
  obtain ⟨F', k1, k2, k3⟩ := hs
  refine ⟨⟨F', G, k1, h2.out k2 (fun g hg hF => h3 g hF hg), fun g hF hG => ?_, fun g hF => ?_, h5⟩, hb.trans (k2.below h4 hb.size)⟩
  · rcases k3 g hF with e | e
    · exact h3 g e hG
    · have := h2.lt g hG; omega
  · rcases k3 g hF with e | e
    · exact h4 g e
    · exact Nat.le_trans hb.size e

/-- A step of the document's. -/
theorem PQ.stepQ {w0 W W' : World} {p q : Nat} {st su su' : Dm.Ds} {F G : Nat → Prop} (h1 : Pk p F W st) (h2 : Dk q G W su) (h3 : ∀ g, F g → ¬ G g) (h4 : ∀ g, F g → w0.heap.size ≤ g) (h5 : ∀ g, G g → w0.heap.size ≤ g) (hb : Below w0.heap.size w0 W) (hs : DStep q G W W' su') : PQ w0 W' p q st su' := by
  obtain ⟨G', k1, k2, k3⟩ := hs
  refine ⟨⟨F, G', h1.out k2 (fun g hF hG => h3 g hF hG), k1, fun g hF hG => ?_, h4, fun g hG => ?_⟩, hb.trans (k2.below h5 hb.size)⟩
  · rcases k3 g hG with e | e
    · exact h3 g hF e
    · have := h1.lt g hF; omega
  · rcases k3 g hG with e | e
    · exact h5 g e
    · exact Nat.le_trans hb.size e

theorem PQ.callP {w0 W : World} {p q : Nat} {st su st' : Dm.Ds} (h : PQ w0 W p q st su) {f : FuncId} {args : Array Value} {x : Value} (k : ∀ F, Pk p F W st → (∀ g, F g → w0.heap.size ≤ g) → Calls Tryz.prog f args W fun E w' => E = .returned x ∧ PStep p F W w' st') :
    Calls Tryz.prog f args W fun E w' => E = .returned x ∧ Hid (PQ w0 w' p q st' su) := by
  obtain ⟨F, G, h1, h2, h3, h4, h5⟩ := h.ex
  refine (k F h1 h4).mono ?_
  rintro E w' ⟨rfl, hs⟩
  exact ⟨rfl, hide (PQ.stepP h1 h2 h3 h4 h5 h.bel hs)⟩

theorem PQ.callQ {w0 W : World} {p q : Nat} {st su su' : Dm.Ds} (h : PQ w0 W p q st su) {f : FuncId} {args : Array Value} {x : Value} (k : ∀ G, Dk q G W su → (∀ g, G g → w0.heap.size ≤ g) → Calls Tryz.prog f args W fun E w' => E = .returned x ∧ DStep q G W w' su') :
    Calls Tryz.prog f args W fun E w' => E = .returned x ∧ Hid (PQ w0 w' p q st su') := by
  obtain ⟨F, G, h1, h2, h3, h4, h5⟩ := h.ex
  refine (k G h2 h5).mono ?_
  rintro E w' ⟨rfl, hs⟩
  exact ⟨rfl, hide (PQ.stepQ h1 h2 h3 h4 h5 h.bel hs)⟩

/-- A call that asks alone. -/
theorem PQ.askP {w0 W : World} {p q : Nat} {st su : Dm.Ds} (h : PQ w0 W p q st su) {f : FuncId} {args : Array Value} {x : Value} (k : ∀ F, Pk p F W st → Calls Tryz.prog f args W fun E w' => E = .returned x ∧ W = w') : Calls Tryz.prog f args W fun E w' => E = .returned x ∧ w' = W := by
  obtain ⟨F, G, h1, _⟩ := h.ex
  exact (k F h1).mono fun E w' ⟨a, b⟩ => ⟨a, b.symm⟩
theorem PQ.askQ {w0 W : World} {p q : Nat} {st su : Dm.Ds} (h : PQ w0 W p q st su) {f : FuncId} {args : Array Value} {x : Value} (k : ∀ G, Dk q G W su → Calls Tryz.prog f args W fun E w' => E = .returned x ∧ W = w') : Calls Tryz.prog f args W fun E w' => E = .returned x ∧ w' = W := by
  obtain ⟨F, G, _, h2, _⟩ := h.ex
  exact (k G h2).mono fun E w' ⟨a, b⟩ => ⟨a, b.symm⟩

theorem lentR_out {F : Nat → Prop} {base : Nat} {w w' : World} {rs : List Cw} (h : LentR base w rs) (ho : Out F w w') (hF : ∀ g, F g → g < base) : LentR base w' rs := fun c hc => by
  obtain ⟨g, cap, h0, hc', hm, hown⟩ := h c hc
  refine ⟨g, cap, h0, hc', hm, row_agree hown fun b hb => ?_⟩
  obtain ⟨h1, h2⟩ := OwnO.block hown b hb
  exact ho.block b h2 fun e => by have := hF b e; omega

theorem fit_cvs2 {r s : List Cw} (h : cvs r = cvs s) (hf : FitC s) : FitC r := fun c hc => by
  obtain ⟨k, hk⟩ := List.getElem?_of_mem hc
  obtain ⟨d, hd, _, _, e⟩ := cvs_at h hk
  rw [e]
  exact hf d (List.mem_of_getElem? hd)

/-- Lent commits, and a front of them. -/
structure Ln (W : World) (b : Nat) (vl vo : Value) (ru : List Cw) : Prop where
  ol : OwnR 59 b W vl (ru ++ [behC, behC, behC])
  lr : LentR b W ru
  ro : RowC W vo ru

theorem Ln.below {W W' : World} {b : Nat} {vl vo : Value} {ru : List Cw} (h : Ln W b vl vo ru) (hb : Below W.heap.size W W') : Ln W' b vl vo ru := ⟨h.ol.below hb, h.lr.below hb, h.ro.below hb⟩
theorem Ln.out {F : Nat → Prop} {W W' : World} {b : Nat} {vl vo : Value} {ru : List Cw} (h : Ln W b vl vo ru) (hv : ∀ wx, (Instr.slice 23 vl none (some (.int .i64 ru.length)) none).run Tryz.prog wx = .ok vo wx) (ho : Out F W W') (hF : ∀ g, F g → g < b) : Ln W' b vl vo ru := by
  have ol' := row_out h.ol ho hF
  refine ⟨ol', lentR_out h.lr ho hF, ?_⟩
  obtain ⟨vs, hs, rows⟩ := (OwnR.row ol').slice_h Tryz.elemC Tryz.sizeC ru.length (by rw [List.length_append]; omega)
  rw [List.take_left] at rows
  have : (Result.ok vo W : Result Value) = .ok vs W := (hv W).symm.trans (hs W)
  simp only [Result.ok.injEq, and_true] at this
  rw [this]
  exact rows

end Go.Proofs.YtkpnkknolobioaaGreat

/- A disk of the program's that lies in new memory alone; the chapter's first examples. -/
namespace Go.Proofs.YtkpnkknolobioaaGreat
open Go.RowKit
set_option linter.unusedVariables false

/-- A disk whose blocks are from 'base' on. -/
def Dsk (base p : Nat) (w : World) (st : Dm.Ds) : Prop := ∃ F, Pk p F w st ∧ ∀ g, F g → base ≤ g

section
variable {base p : Nat} {w w' : World} {st st' : Dm.Ds} {F : Nat → Prop}

theorem Dsk.below (h : Dsk base p w st) (hb : Below w.heap.size w w') : Dsk base p w' st := by
  obtain ⟨F, h1, h2⟩ := h
  exact ⟨F, h1.below hb, h2⟩

theorem Dsk.step (hF : ∀ g, F g → base ≤ g) (hb : base ≤ w.heap.size) (h : PStep p F w w' st') : Dsk base p w' st' ∧ Below base w w' := by
  obtain ⟨F', h1, h2, h3⟩ := h
  exact ⟨⟨F', h1, fun g hg => (h3 g hg).elim (hF g) fun h => Nat.le_trans hb h⟩, h2.below hF hb⟩

theorem dpull (h : Dsk base p w st) (hb : base ≤ w.heap.size) : Calls Tryz.prog 22 #[.pointer (some ⟨p, 0, none⟩)] w fun E w' => E = .returned (.int .i64 (Dm.pull st).1) ∧ Dsk base p w' (Dm.pull st).2 ∧ Below base w w' := by
  obtain ⟨F, h1, h2⟩ := h
  exact (pull_any p F w st h1).mono fun E w' ⟨e, s⟩ => ⟨e, Dsk.step h2 hb s⟩

theorem dfuse (h : Dsk base p w st) (hb : base ≤ w.heap.size) (n : Int) : Calls Tryz.prog 12 #[.pointer (some ⟨p, 0, none⟩), .int .i64 n] w fun E w' => E = .returned (.int .i64 (Dm.fuse st n).1) ∧ Dsk base p w' (Dm.fuse st n).2 ∧ Below base w w' := by
  obtain ⟨F, h1, h2⟩ := h
  exact (fuse_any p F w st n h1).mono fun E w' ⟨e, s⟩ => ⟨e, Dsk.step h2 hb s⟩

theorem dsync (h : Dsk base p w st) (hb : base ≤ w.heap.size) (hs : Big 100000000 900000 st) : Calls Tryz.prog 10 #[.pointer (some ⟨p, 0, none⟩)] w fun E w' => E = .returned (.int .i64 (Dm.sync st).1) ∧ Dsk base p w' (Dm.sync st).2 ∧ Below base w w' := by
  obtain ⟨F, h1, h2⟩ := h
  refine (sync_any p F w st h1 (fun f => by have := hs.1.1 f; omega) (by have := hs.1.2.1; omega) hs.2 (by have := hs.1.2.2; omega)).mono fun E w' ⟨e, s⟩ => ⟨e, Dsk.step h2 hb s⟩

theorem dcut (h : Dsk base p w st) (hb : base ≤ w.heap.size) (hs : Big 100000000 900000 st) (file len : Int) : Calls Tryz.prog 43 #[.pointer (some ⟨p, 0, none⟩), .int .i64 file, .int .i64 len] w fun E w' => E = .returned (.int .i64 (Dm.cutD st file len).1) ∧ Dsk base p w' (Dm.cutD st file len).2 ∧ Below base w w' := by
  obtain ⟨F, h1, h2⟩ := h
  refine (cut_any p F w st file len h1 (fun f => by have := hs.1.1 f; omega) (by have := hs.1.2.1; omega) hs.2 (by have := hs.1.2.2; omega)).mono fun E w' ⟨e, s⟩ => ⟨e, Dsk.step h2 hb s⟩

theorem dstart (h : Dsk base p w st) (hb : base ≤ w.heap.size) (hs : Big 100000000 900000 st) (k t : Int) (ht : t ≤ 9223372036854775807) : Calls Tryz.prog 24 #[.pointer (some ⟨p, 0, none⟩), .int .i64 k, .int .i64 t] w fun E w' => E = .returned (.int .i64 (Dm.start st k t).1) ∧ Dsk base p w' (Dm.start st k t).2 ∧ Below base w w' := by
  obtain ⟨F, h1, h2⟩ := h
  refine (start_any p F w st k t h1 ht (fun f => by have := hs.1.1 f; omega) (by have := hs.1.2.1; omega)).mono fun E w' ⟨e, s⟩ => ⟨e, Dsk.step h2 hb s⟩

/-- Bytes that are none of the disk's. -/
theorem dwrite (h1 : Pk p F w st) (h2 : ∀ g, F g → base ≤ g) (hb : base ≤ w.heap.size) (hs : Big 100000000 900000 st) (file : Int) (vb : Value) (bs : List Int) (hi : Is .u8 w vb bs) (hl : bs.length ≤ 1000) (hn : 0 < bs.length → ∀ b, vb.ownBlock = some b → ¬ F b) :
    Calls Tryz.prog 8 #[.pointer (some ⟨p, 0, none⟩), .int .i64 file, vb] w fun E w' => E = .returned (.int .i64 (Dm.write st file bs).1) ∧ Dsk base p w' (Dm.write st file bs).2 ∧ Below base w w' := by
  have hc : cnt bs.length ≤ 100 := by unfold cnt; omega
  refine (write_any p F w st file vb bs h1 hi hn (by omega) (by have := hs.1.2.1; omega) hs.2 (by have := hs.1.2.2; omega)).mono fun E w' ⟨e, s⟩ => ⟨e, Dsk.step h2 hb s⟩

/-- Bytes of a row that was made behind the disk's last change. -/
theorem dwrite_new {w0 : World} (h : Dsk base p w0 st) (hb0 : base ≤ w0.heap.size) (hbel : Below w0.heap.size w0 w) (hs : Big 100000000 900000 st) (file : Int) (vb : Value) (bs : List Int) (hi : Is .u8 w vb bs) (hl : bs.length ≤ 1000) (hn : ∀ b, vb.ownBlock = some b → w0.heap.size ≤ b) :
    Calls Tryz.prog 8 #[.pointer (some ⟨p, 0, none⟩), .int .i64 file, vb] w fun E w' => E = .returned (.int .i64 (Dm.write st file bs).1) ∧ Dsk base p w' (Dm.write st file bs).2 ∧ Below base w w' := by
  obtain ⟨F, h1, h2⟩ := h
  exact dwrite (h1.below hbel) h2 (Nat.le_trans hb0 hbel.size) hs file vb bs hi hl fun _ b hb hF => by have := h1.lt b hF; have := hn b hb; omega

/-- Bytes that lay there ahead of the disk. -/
theorem dwrite_old (h : Dsk base p w st) (hb0 : base ≤ w.heap.size) (hs : Big 100000000 900000 st) (file : Int) (vb : Value) (bs : List Int) (hi : Is .u8 w vb bs) (hl : bs.length ≤ 1000) (hn : 0 < bs.length → ∀ b, vb.ownBlock = some b → b < base) :
    Calls Tryz.prog 8 #[.pointer (some ⟨p, 0, none⟩), .int .i64 file, vb] w fun E w' => E = .returned (.int .i64 (Dm.write st file bs).1) ∧ Dsk base p w' (Dm.write st file bs).2 ∧ Below base w w' := by
  obtain ⟨F, h1, h2⟩ := h
  exact dwrite h1 h2 hb0 hs file vb bs hi hl fun h0 b hb hF => by have := h2 b hF; have := hn h0 b hb; omega

end

theorem dnew (w : World) : Calls Tryz.prog 6 #[] w fun E w' => E = .returned (.pointer (some ⟨w.heap.size, 0, none⟩)) ∧ Dsk w.heap.size w.heap.size w' Dm.new ∧ Below w.heap.size w w' :=
  (new_any w).mono fun E w' ⟨e, h, b⟩ => ⟨e, ⟨_, h, fun g hg => by omega⟩, b⟩

def z70 : List Int := List.replicate 70 0

def lv1 : Dm.Ds := (Dm.write Dm.new 0 z70).2
def lv2 : Dm.Ds := (Dm.pull lv1).2
def lv3 : Dm.Ds := (Dm.start lv2 1 3).2

theorem big_lv1 : Big 100 10 lv1 := (big_write big_new 0 z70).mono (by decide) (by decide)
theorem big_lv2 : Big 100 10 lv2 := big_pull big_lv1
theorem big_lv3 : Big 100 10 lv3 := big_start big_lv2 1 3

theorem lv_facts : (Dm.write Dm.new 0 z70).1 = 0 ∧ lv1.wait.length = 2 ∧ (Dm.pull lv1).1 = 0 ∧ (Dm.start lv2 1 3).1 = 0 ∧ rdE lv3 0 = 0 ∧ (rdB lv3 0).length = 67 := by decide

theorem made_rep (n : Nat) : (madeCells #[.int .u8 0] n).toList = (List.replicate n 0).map (Value.int .u8) := by
  unfold madeCells
  rw [Array.toList_map, Array.toList_range]
  apply List.ext_getElem
  · simp
  · intro i h1 h2
    simp [Nat.mod_one]

/-- 'make([]byte, 70)'. -/
theorem make_step (w : World) : ∃ W, (Instr.makeSlice 22 (.int .i64 70) (.int .i64 70)).run Tryz.prog w = .ok (.slice (some ⟨w.heap.size, 0, none⟩) 70 70) W ∧ Below w.heap.size w W ∧ Own .u8 5 w.heap.size W (.slice (some ⟨w.heap.size, 0, none⟩) 70 70) z70 := by
  obtain ⟨i, hi, hz, hsize, hb⟩ := info_parts Tryz.info5
  obtain ⟨W, h1, h2, h3⟩ := run_make_full (P := Tryz.prog) w w.heap.size 22 5 i (.int .u8 0) 1 Tryz.underlying22 hi hz hsize .i64 .i64 70 (by rw [hb]; decide) (by decide) (Nat.le_refl _)
  have e : (madeCells (Value.int .u8 0).cells (70 * 1)).toList = z70.map (Value.int .u8) := made_rep 70
  rw [e] at h2
  exact ⟨W, h1, (Below.refl _ _).grown h3 (Nat.le_refl _) fun k hk => (by cases hk), (fun z hz => (by rw [List.eq_of_mem_replicate hz]; rfl)), h2⟩

end Go.Proofs.YtkpnkknolobioaaGreat

/- The contract of Pick. -/
namespace Go.Proofs.YtkpnkknolobioaaGreat
open Go.RowKit
set_option linter.unusedVariables false

/-- An integer of 64 bits. -/
def I64 (z : Int) : Prop := -9223372036854775808 ≤ z ∧ z ≤ 9223372036854775807

def pk (x n : Int) : Int := if x.tmod n < 0 then x.tmod n + n else x.tmod n

theorem pk_lt (x n : Int) (hn : 0 < n) : 0 ≤ pk x n ∧ pk x n < n := by
  have ht1 : x.tmod n < n := Int.tmod_lt_of_pos x hn
  have ht2 : -n < x.tmod n := Int.lt_tmod_of_pos x hn
  unfold pk
  split <;> omega

end Go.Proofs.YtkpnkknolobioaaGreat

/- Calls of a disk in memory ('Act'): a row of them. -/
namespace Go.Proofs.YtkpnkknolobioaaGreat
open Go.RowKit
set_option linter.unusedVariables false

/-- A call as it stands in memory. -/
structure Aw where
  k : Int
  f : Int
  n : Int
  t : Int
  v : Value
  bs : List Int

def actc (a : Aw) : List Value := [.int .i64 a.k, .int .i64 a.f, .int .i64 a.n, .int .i64 a.t, a.v]
theorem actc_len (a : Aw) : (actc a).length = 5 := rfl

/-- What a call's parts are. -/
def ActOk (w : World) (a : Aw) : Prop := Is .u8 w a.v a.bs ∧ I64 a.k ∧ I64 a.f ∧ I64 a.n ∧ I64 a.t

/-- A slice of calls. -/
def IsA (w : World) (v : Value) (l : List Aw) : Prop := RowG actc w v l ∧ ∀ a ∈ l, ActOk w a

theorem ActOk.below {w w' : World} {a : Aw} (h : ActOk w a) (hb : Below w.heap.size w w') : ActOk w' a := ⟨h.1.below hb, h.2⟩
theorem IsA.below {w w' : World} {v : Value} {l : List Aw} (h : IsA w v l) (hb : Below w.heap.size w w') : IsA w' v l := ⟨h.1.below hb, fun a ha => (h.2 a ha).below hb⟩

/-- Is a script gone through? -/
def smallA (l : List Aw) : Bool := l.all (fun a => decide (a.bs.length ≤ 400)) && decide (l.length ≤ 100)

theorem IsA.full {w : World} {v : Value} {l : List Aw} (h : IsA w v l) (hne : 0 < l.length) :
    ∃ b off cap, v = .slice (some ⟨b, off, none⟩) l.length cap ∧ l.length ≤ cap ∧ cap ≤ maxLen ∧ b < w.heap.size ∧ ∀ (i : Nat) (a : Aw), l[i]? = some a → w.cell? ⟨b, off + i * 5, none⟩ = some (.int .i64 a.k) ∧ w.cell? ⟨b, off + i * 5 + 1, none⟩ = some (.int .i64 a.f) ∧ w.cell? ⟨b, off + i * 5 + 2, none⟩ = some (.int .i64 a.n) ∧ w.cell? ⟨b, off + i * 5 + 3, none⟩ = some (.int .i64 a.t) ∧ w.cell? ⟨b, off + i * 5 + 4, none⟩ = some a.v := by
  obtain ⟨b, off, cap, h1, h2, h3, h4, h5⟩ := h.1.full actc_len (by decide) hne
  exact ⟨b, off, cap, h1, h2, h3, h4, fun i a hi => ⟨h5 i a hi 0 _ rfl, h5 i a hi 1 _ rfl, h5 i a hi 2 _ rfl, h5 i a hi 3 _ rfl, h5 i a hi 4 _ rfl⟩⟩

theorem smallA_len {l : List Aw} (h : smallA l = true) : l.length ≤ 100 ∧ ∀ a ∈ l, a.bs.length ≤ 400 := by
  unfold smallA at h
  rw [Bool.and_eq_true, List.all_eq_true] at h
  exact ⟨of_decide_eq_true h.2, fun a ha => of_decide_eq_true (h.1 a ha)⟩

end Go.Proofs.YtkpnkknolobioaaGreat
