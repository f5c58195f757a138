/- Texts of one layer, one behind the other. -/
import Derived.Test.YthmecljkackmbaaGreatZD1
/- The document's disk: Start. -/
namespace Go.Proofs.YthmecljkackmbaaGreat
open Go.RowKit Go.Shelf
set_option linter.unusedVariables false

/-- The last steps of Start. -/
theorem finR_tail {p : Nat} {F : Nat → Prop} {w : World} {st : Dm.Ds} {s : Nat → Value} {wv : Value} {rs : List Rv} (D : DkW p F w st s wv rs) :
    ∃ V1 V2 V3, w.setCell ⟨p, 5, none⟩ (.slice none 0 0) = V1 ∧ V1.setCell ⟨p, 7, none⟩ (.bool false) = V2 ∧ V2.setCell ⟨p, 6, none⟩ (.bool true) = V3 ∧ (w.cell? ⟨p, 5, none⟩ = some wv ∧ w.frozen? ⟨p, 5, none⟩ = false) ∧ (V1.cell? ⟨p, 7, none⟩ = some (.bool st.has) ∧ V1.frozen? ⟨p, 7, none⟩ = false) ∧ (V2.cell? ⟨p, 6, none⟩ = some (.bool st.on) ∧ V2.frozen? ⟨p, 6, none⟩ = false) ∧
      Dk p F V3 { st with wait := [], has := false, on := true } ∧ Out (fun g => g = p) w V3 := by
  obtain ⟨A1, B1⟩ := DkW.put (F := F) (st' := { st with wait := [] }) (s' := s) (wv' := .slice none 0 0) (rs' := []) D.blk D.inp D.lt 5 (.slice none 0 0) rfl D.file (OwnG.nil _ _ _ _ _) (fun b hb => by simp [Value.ownBlock] at hb) (fun r hr => by simp at hr) rfl
  obtain ⟨A2, B2⟩ := DkW.put (F := F) (st' := { st with wait := [], has := false }) (s' := s) (wv' := .slice none 0 0) (rs' := []) A1.blk A1.inp A1.lt 7 (.bool false) rfl A1.file A1.row A1.inr A1.raw rfl
  obtain ⟨A3, B3⟩ := DkW.put (F := F) (st' := { st with wait := [], has := false, on := true }) (s' := s) (wv' := .slice none 0 0) (rs' := []) A2.blk A2.inp A2.lt 6 (.bool true) rfl A2.file A2.row A2.inr A2.raw rfl
  exact ⟨_, _, _, rfl, rfl, rfl, ⟨blk_cell D.blk 5 rfl, blk_froz D.blk 5⟩, ⟨blk_cell A1.blk 7 rfl, blk_froz A1.blk 7⟩, ⟨blk_cell A2.blk 6 rfl, blk_froz A2.blk 6⟩, ⟨s, _, [], A3.toV trivial⟩, (B1.trans B2 fun g hg => .inl hg).trans B3 fun g hg => .inl hg⟩

/-- What Start leaves. -/
theorem finR_step {p : Nat} {F F1 : Nat → Prop} {w w1 w2 : World} {st' : Dm.Ds} (hD : Dk p F1 w2 st') (hO : Out F w w1) (hS : ∀ g, F1 g → F g ∨ w.heap.size ≤ g) (hp : F1 p) (h2 : Out (fun g => g = p) w1 w2) : DStep p F w w2 st' :=
  ⟨F1, hD, hO.trans h2 fun g hg => hg ▸ hS p hp, hS⟩

set_option maxRecDepth 100000 in
set_option maxHeartbeats 8000000 in
theorem startR_any (p : Nat) (F : Nat → Prop) (w : World) (st : Dm.Ds) (k t : Int) (h : Dk p F w st) (hk9 : k ≤ 9223372036854775807) (ht9 : t ≤ 9223372036854775807) (hsz : ∀ f, (st.sure f).length + Dm.bulk st.wait ≤ 140737488355000) (hlen : st.wait.length ≤ 1000000) :
    Calls Tryz.prog 103 #[.pointer (some ⟨p, 0, none⟩), .int .i64 k, .int .i64 t] w fun E w' => E = .returned (.int .i64 (Dm.start st k t).1) ∧ DStep p F w w' (Dm.start st k t).2 := by
  have HA := hide (noneR_any p F w st h)
  have HK := hide h
  obtain ⟨s, wv, rs, h⟩ := h
  have c6 := h.c6
  unfold Dm.start
  cases hon : st.on
  · rw [hon] at c6
    by_cases hk : k < 0
    · rw [if_pos (.inr (.inl hk))]
      clear h hon
      go_enter Tryz.func103, Tryz.ntmps103
      go_wp2_with fail
      refine HA.out.mono ?_
      rintro E w1 ⟨rfl, rfl⟩
      go_wp2
      go_ret
      exact ⟨rfl, DStep.same HK.out (Below.refl _ _)⟩
    · by_cases htn : t < 0
      · rw [if_pos (.inr (.inr htn))]
        clear h hon
        go_enter Tryz.func103, Tryz.ntmps103
        go_wp2_with fail
        refine HA.out.mono ?_
        rintro E w1 ⟨rfl, rfl⟩
        go_wp2
        go_ret
        exact ⟨rfl, DStep.same HK.out (Below.refl _ _)⟩
      · rw [if_neg (by simp; omega)]
        obtain ⟨kn, rfl⟩ : ∃ x : Nat, k = x := ⟨k.toNat, by omega⟩
        obtain ⟨tn, rfl⟩ : ∃ x : Nat, t = x := ⟨t.toNat, by omega⟩
        simp only [Int.toNat_natCast]
        have KP := hide (keepR_any p F w st kn (by omega) HK.out hsz hlen)
        have hk' : ¬ (kn : Int) < 0 := hk
        have ht' : ¬ (tn : Int) < 0 := htn
        have HOK := hide h.ok
        clear h hon hk htn
        go_enter Tryz.func103, Tryz.ntmps103
        go_wp2_with fail
        refine HA.out.mono ?_
        rintro E w1 ⟨rfl, rfl⟩
        go_wp2_with fail
        refine KP.out.mono ?_
        rintro E w4 ⟨⟨v4, rfl⟩, wv4, rs4, s4, F4, D4, O4, S4⟩
        have hwt : rs4.map Rv.r = st.wait := D4.wait
        have hl4 : st.wait.length = rs4.length := by rw [← hwt, List.length_map]
        obtain ⟨ao, cap, hv, hcap, hcm⟩ := D4.row.row.shape
        have c5 : w4.cell? ⟨p, 5, none⟩ = some wv4 := blk_cell D4.blk 5 rfl
        rw [hv] at c5
        have HD4 := hide D4
        have HO4 := hide O4
        have HS4 := hide S4
        by_cases hlt : kn < rs4.length
        · obtain ⟨r, hr⟩ : ∃ r, rs4[kn]? = some r := ⟨rs4[kn], by rw [List.getElem?_eq_getElem]⟩
          have hst : st.wait[kn]? = some r.r := by rw [← hwt, List.getElem?_map, hr]; rfl
          obtain ⟨g, hao, hg⟩ : ∃ b, ao = some ⟨b, 0, none⟩ ∧ wv4.ownBlock = some b := by
            rcases D4.row.2 with ⟨_, h1⟩ | ⟨g, cap', cur, h1, _⟩
            · omega
            · rw [hv] at h1
              simp only [Value.slice.injEq, true_and] at h1
              exact ⟨g, h1.1, by rw [hv, h1.1]; rfl⟩
          subst hao
          have hcell := fun j u hj => D4.row.cells hg (kn * 4 + j) u (gcells_at rawc_len rs4 kn r hr j u hj)
          have e0 : w4.cell? ⟨g, kn * 4, none⟩ = some (.int .i64 r.file) := by have := hcell 0 _ rfl; rwa [add_at, Nat.zero_add] at this
          have e1 : w4.cell? ⟨g, kn * 4 + 1, none⟩ = some (.bool r.cut) := by have := hcell 1 _ rfl; rwa [add_at, Nat.zero_add] at this
          have e2 : w4.cell? ⟨g, kn * 4 + 2, none⟩ = some (.int .i64 r.to) := by have := hcell 2 _ rfl; rwa [add_at, Nat.zero_add] at this
          have e3 : w4.cell? ⟨g, kn * 4 + 3, none⟩ = some r.v := by have := hcell 3 _ rfl; rwa [add_at, Nat.zero_add] at this
          have hlt' : (kn : Int) < rs4.length := by omega
          have hk0 : (0 : Int) ≤ (kn : Int) := by omega
          cases hc : r.cut
          · rw [hc] at e1
            have hfit := Dm.valid_at HOK.out hst
            have hf : r.file < 4 := hfit.1
            have hbn : 1 ≤ r.bytes.length := (hfit.2.2 hc).1
            have hbn2 : r.bytes.length ≤ 64 := (hfit.2.2 hc).2
            obtain ⟨q, hq⟩ : ∃ q, q = min tn (r.bytes.length - 1) := ⟨_, rfl⟩
            have hql : q ≤ r.bytes.length := by omega
            have isr := (D4.raw r (List.mem_of_getElem? hr)).1
            obtain ⟨b, off, cr, hrv, hcr, hcrm, hbw, _⟩ := isr.full (by omega)
            obtain ⟨V, hV, hV2, szV, belV, bV, x0, x1, x2, x3⟩ := new_four w4 169 (.int .i64 0) (.bool false) (.int .i64 0) (.slice none 0 0) (.int .i64 r.file) (.bool false) (.int .i64 r.to) (.slice (some ⟨b, off, none⟩) r.bytes.length cr)
            have isq : Is .u8 w4 (.slice (some ⟨b, off, none⟩) q cr) (r.bytes.take q) := by
              rw [hrv] at isr
              exact isr.cut q hql
            have hp : p < w4.heap.size := blk_lt D4.blk
            have cfv : V.cell? ⟨p, 1 + r.file, none⟩ = some (s4 r.file) := (belV.cell (p := ⟨p, 1 + r.file, none⟩) hp).trans (by
              rcases (show r.file = 0 ∨ r.file = 1 ∨ r.file = 2 ∨ r.file = 3 by omega) with e | e | e | e <;> rw [e]
              · exact blk_cell D4.blk 1 rfl
              · exact blk_cell D4.blk 2 rfl
              · exact blk_cell D4.blk 3 rfl
              · exact blk_cell D4.blk 4 rfl)
            obtain ⟨af, nf, cpf, hsf⟩ := (D4.file r.file hf).1.form
            have hszf := hsz r.file
            have hdl := dof_len st.sure (st.wait.take kn) r.file
            have hbt := bulk_at hst
            have et : Dm.kept st kn tn = Dm.upd (Dm.dof st.sure (st.wait.take kn)) r.file (Dm.wth (Dm.dof st.sure (st.wait.take kn) r.file) (Rv.r ⟨r.file, false, 0, .slice (some ⟨b, off, none⟩) q cr, r.bytes.take q⟩)) := by
              unfold Dm.kept
              rw [hst]
              simp only [Rv.r, hc]
              rw [if_neg (by simp), hq]
              rfl
            have BI : Hid (Calls Tryz.prog 134 #[s4 r.file, .agg #[.int .i64 r.file, .bool false, .int .i64 0, .slice (some ⟨b, off, none⟩) q cr]] V.drew fun E w2 => ∃ v2, E = .returned v2 ∧ ((∃ s5 F5, DkW p F5 (w2.setCell ⟨p, 1 + r.file, none⟩ v2) { st with sure := Dm.kept st kn tn } s5 wv4 rs4 ∧ Out F w (w2.setCell ⟨p, 1 + r.file, none⟩ v2) ∧ ∀ g, F5 g → F g ∨ w.heap.size ≤ g) ∧ (w2.cell? ⟨w4.heap.size, 0, none⟩ = some (.int .i64 r.file) ∧ w2.cell? ⟨w4.heap.size, 3, none⟩ = some (.slice (some ⟨b, off, none⟩) r.bytes.length cr)) ∧ ((w2.setCell ⟨p, 1 + r.file, none⟩ v2).cell? ⟨w4.heap.size, 0, none⟩ = some (.int .i64 r.file) ∧ (w2.setCell ⟨p, 1 + r.file, none⟩ v2).cell? ⟨w4.heap.size, 3, none⟩ = some (.slice (some ⟨b, off, none⟩) r.bytes.length cr)) ∧ w2.cell? ⟨p, 1 + r.file, none⟩ = some (s4 r.file) ∧ w2.frozen? ⟨p, 1 + r.file, none⟩ = false ∧ ∃ a n c, v2 = .slice a n c)) := hide (by
              refine (withR_any (s4 r.file) _ ⟨r.file, false, 0, .slice (some ⟨b, off, none⟩) q cr, r.bytes.take q⟩ V.drew (((D4.file r.file hf).1.below belV).drewN 1) ((isq.below belV).drewN 1) (fun hc => by simp at hc) (by
                show (Dm.dof st.sure (st.wait.take kn) r.file).length + (r.bytes.take q).length ≤ _
                simp only [List.length_take]
                have : r.r.bytes = r.bytes := rfl
                rw [this] at hbt
                omega)).mono ?_
              rintro E w2 ⟨v2, rfl, own2, bel2⟩
              have belV' : Below V.heap.size V w2 := (below_drewN (Below.refl _ _) 1).trans bel2
              have belW : Below w4.heap.size w4 w2 := belV.trans (belV'.mono (by omega))
              have hb2 := (belV'.block w4.heap.size (by omega)).trans bV
              have hp2 := (belW.block p hp).trans D4.blk
              have hb3 := (Below.heap_setCell w2 ⟨p, 1 + r.file, none⟩ v2 w4.heap.size (by show w4.heap.size ≠ p; omega)).trans hb2
              obtain ⟨q1, q2⟩ := D4.files hf belW (own2.rebase (show w4.heap.size ≤ V.drew.heap.size by show w4.heap.size ≤ V.heap.size; omega))
              refine ⟨v2, rfl, ⟨_, _, by rw [et]; exact q1, HO4.out.trans q2 HS4.out, fun g hg => ?_⟩, ⟨blk_cell hb2 0 rfl, blk_cell hb2 3 rfl⟩, ⟨blk_cell hb3 0 rfl, blk_cell hb3 3 rfl⟩, (belV'.cell (p := ⟨p, 1 + r.file, none⟩) (by show p < V.heap.size; omega)).trans cfv, blk_froz hp2 _, own2.is.form⟩
              rcases hg with hg | hg
              · exact HS4.out g hg
              · have h1 := (own2.block g hg).1
                have h2 : V.drew.heap.size = V.heap.size := rfl
                exact .inr (by have := HO4.out.size; omega))
            have hf0 : (0 : Int) ≤ (r.file : Int) := by omega
            have hf4 : (r.file : Int) < 4 := by omega
            have hcr0 : ¬ cr = 0 := by omega
            have hwr : IntKind.i64.wrap ((r.bytes.length : Int) - 1) = (r.bytes.length : Int) - 1 := wrap64s _ (by omega) (by omega)
            have hmin : (if (r.bytes.length : Int) - 1 < (tn : Int) then (r.bytes.length : Int) - 1 else (tn : Int)) = (q : Int) := by split <;> omega
            have hq0 : (0 : Int) ≤ (q : Int) := by omega
            have hqc : (q : Int) ≤ cr := by omega
            rw [hsf] at cfv BI
            rw [hrv] at e3
            clear hcell hr hst hfit hszf isr isq hsf hg et bV hrv hq hwt hl4 hv D4 O4 S4 hdl hbt hc
            go_wp2_with fail
            refine wp_region_held_drew (S := (fun w' => w'.cell? ⟨w4.heap.size, 0, none⟩ = some (.int .i64 r.file) ∧ w'.cell? ⟨w4.heap.size, 3, none⟩ = some (.slice (some ⟨b, off, none⟩) r.bytes.length cr))) (by kernel_rfl) ⟨x0, x3⟩ (fun hHeld => ?_)
            refine wpAnyH_take (i := 0) (v := ?v0) rfl (by kernel_rfl) (by kernel_rfl) (by kernel_rfl) (fun _ _ _ h => h) (Or.inl ⟨by rfl, ?y0⟩) (by assumption) ?r0
            case y0 => (intro w hSw; (try dsimp only at hSw); go_simp <;> (with_reducible rfl))
            refine wpAnyH_take (i := 1) (v := ?v1) rfl (by kernel_rfl) (by kernel_rfl) (by kernel_rfl) (fun _ _ _ h => h) (Or.inl ⟨by rfl, ?y1⟩) (by assumption) ?r1
            case y1 => (intro w hSw; (try dsimp only at hSw); go_simp <;> (with_reducible rfl))
            refine wpAnyH_take (i := 2) (v := ?v2) rfl (by kernel_rfl) (by kernel_rfl) (by kernel_rfl) (fun _ _ _ h => h) (Or.inl ⟨by rfl, ?y2⟩) (by assumption) ?r2
            case y2 => (intro w hSw; (try dsimp only at hSw); go_simp <;> (with_reducible rfl))
            refine wpAnyH_take (i := 3) (v := ?v3) rfl (by kernel_rfl) (by kernel_rfl) (by kernel_rfl) (fun _ _ _ h => h) (Or.inl ⟨by rfl, ?y3⟩) (by assumption) ?r3
            case y3 => (intro w hSw; (try dsimp only at hSw); go_simp <;> (with_reducible rfl))
            refine wpAnyH_take (i := 4) (v := ?v4) rfl (by kernel_rfl) (by kernel_rfl) (by kernel_rfl) (fun _ _ _ h => h) (Or.inl ⟨by rfl, ?y4⟩) (by assumption) ?r4
            case y4 => (intro w hSw; (try dsimp only at hSw); go_simp <;> (with_reducible rfl))
            refine wpAnyH_take (i := 5) (v := ?v5) rfl (by kernel_rfl) (by kernel_rfl) (by kernel_rfl) (fun _ _ _ h => h) (Or.inl ⟨by rfl, ?y5⟩) (by assumption) ?r5
            case y5 => (intro w hSw; (try dsimp only at hSw); go_simp <;> (with_reducible rfl))
            refine wpAnyH_take (i := 6) (v := ?v6) rfl (by kernel_rfl) (by kernel_rfl) (by kernel_rfl) (fun _ _ _ h => h) (Or.inl ⟨by rfl, ?y6⟩) (by assumption) ?r6
            case y6 => (intro w hSw; (try dsimp only at hSw); go_simp <;> (with_reducible rfl))
            refine wpAnyH_take (i := 7) (v := ?v7) rfl (by kernel_rfl) (by kernel_rfl) (by kernel_rfl) (fun _ _ _ h => h) (Or.inl ⟨by rfl, ?y7⟩) (by assumption) ?r7
            case y7 => (intro w hSw; (try dsimp only at hSw); go_simp <;> (with_reducible rfl))
            refine wpAnyH_take (i := 8) (v := ?v8) rfl (by kernel_rfl) (by kernel_rfl) (by kernel_rfl) (fun _ _ _ h => h) (Or.inl ⟨by rfl, ?y8⟩) (by assumption) ?r8
            case y8 => (intro w hSw; (try dsimp only at hSw); go_simp <;> (with_reducible rfl))
            refine wpAnyH_take (i := 10) (v := ?v10) rfl (by kernel_rfl) (by kernel_rfl) (by kernel_rfl) (fun _ _ _ h => h) (Or.inl ⟨by rfl, ?y10⟩) (by assumption) ?r10
            case y10 => (intro w hSw; (try dsimp only at hSw); go_simp <;> (with_reducible rfl))
            refine wpAnyH_take (i := 11) (v := ?v11) rfl (by kernel_rfl) (by kernel_rfl) (by kernel_rfl) (fun _ _ _ h => h) (Or.inl ⟨by rfl, ?y11⟩) (by assumption) ?r11
            case y11 => (intro w hSw; (try dsimp only at hSw); go_simp <;> (with_reducible rfl))
            refine wpAnyH_take (i := 12) (v := ?v12) rfl (by kernel_rfl) (by kernel_rfl) (by kernel_rfl) (fun _ _ _ h => h) (Or.inl ⟨by rfl, ?y12⟩) (by assumption) ?r12
            case y12 => (intro w hSw; (try dsimp only at hSw); go_simp <;> (with_reducible rfl))
            refine wpAnyH_take (i := 13) (v := ?v13) rfl (by kernel_rfl) (by kernel_rfl) (by kernel_rfl) (fun _ _ _ h => h) (Or.inl ⟨by rfl, ?y13⟩) (by assumption) ?r13
            case y13 => (intro w hSw; (try dsimp only at hSw); go_simp <;> (with_reducible rfl))
            refine wpAnyH_take (i := 14) (v := ?v14) rfl (by kernel_rfl) (by kernel_rfl) (by kernel_rfl) (fun _ _ _ h => h) (Or.inl ⟨by rfl, ?y14⟩) (by assumption) ?r14
            case y14 => (intro w hSw; (try dsimp only at hSw); go_simp <;> (with_reducible rfl))
            refine wpAnyH_take (i := 15) (v := ?v15) rfl (by kernel_rfl) (by kernel_rfl) (by kernel_rfl) (fun _ _ _ h => h) (Or.inl ⟨by rfl, ?y15⟩) (by assumption) ?r15
            case y15 => (intro w hSw; (try dsimp only at hSw); go_simp <;> (with_reducible rfl))
            refine wpAnyH_take (i := 16) (v := ?v16) rfl (by kernel_rfl) (by kernel_rfl) (by kernel_rfl) (fun _ _ _ h => h) (Or.inl ⟨by rfl, ?y16⟩) (by assumption) ?r16
            case y16 => (intro w hSw; (try dsimp only at hSw); go_simp <;> (with_reducible rfl))
            refine wpAnyH_take (i := 18) (v := ?v18) rfl (by kernel_rfl) (by kernel_rfl) (by kernel_rfl) (fun _ _ _ h => h) (Or.inl ⟨by rfl, ?y18⟩) (by assumption) ?r18
            case y18 => (intro w hSw; (try dsimp only at hSw); go_simp <;> (with_reducible rfl))
            refine wpAnyH_take (i := 19) (v := ?v19) rfl (by kernel_rfl) (by kernel_rfl) (by kernel_rfl) (fun _ _ _ h => h) (Or.inl ⟨by rfl, ?y19⟩) (by assumption) ?r19
            case y19 => (intro w hSw; (try dsimp only at hSw); go_simp <;> (with_reducible rfl))
            refine wpAnyH_ready (rs := [9]) (by kernel_rfl) (by simp) ?_
            refine AllReadyH.cons rfl (fun K hK => ?_) AllReadyH.nil
            go_simp
            refine hK.out _ _ ⟨x0, x3⟩ (fun hHeld => ?_)
            clear hK K
            refine wpAnyH_ready (rs := [17]) (by kernel_rfl) (by simp) ?_
            refine AllReadyH.cons rfl (fun K hK => ?_) AllReadyH.nil
            refine call_at rfl 134 #[.tmp 66, .tmp 73] #[112, 169] rfl Tryz.enters134 #[.slice af nf cpf, .agg #[.int .i64 r.file, .bool false, .int .i64 0, .slice (some ⟨b, off, none⟩) q cr]] (by first | (simp [Act.eval]; done) | (simp [Act.eval, Act.put]; done)) BI.out ?_
            rintro v2 w2 ⟨J, ⟨y0, y3⟩, ⟨z0, z3⟩, cp2, fp2, a2, n2, c2, rfl⟩
            have J := hide J
            refine hK.out _ _ ⟨y0, y3⟩ (fun hHeld => ?_)
            clear hK K
            refine wpAnyH_take (i := 20) (v := ?v20) rfl (by kernel_rfl) (by kernel_rfl) (by kernel_rfl) (fun _ _ _ h => h) (Or.inl ⟨by rfl, ?y20⟩) (by assumption) ?r20
            case y20 => (intro w hSw; (try dsimp only at hSw); go_simp <;> (with_reducible rfl))
            refine wpAnyH_ready (rs := [21]) (by kernel_rfl) (by simp) ?_
            refine AllReadyH.cons rfl (fun K hK => ?_) AllReadyH.nil
            go_simp
            refine hK.out _ _ ⟨z0, z3⟩ (fun hHeld => ?_)
            clear hK K
            refine wpAnyH_done (by kernel_rfl) ?_ _
            all_goals
              obtain ⟨s5, F5, D5, O5, S5⟩ := J.out
              obtain ⟨W5, hW5⟩ : ∃ W5, w2.setCell ⟨p, 1 + r.file, none⟩ (.slice a2 n2 c2) = W5 := ⟨_, rfl⟩
              rw [hW5] at D5 O5
              obtain ⟨V1, V2, V3, g1, g2, g3, ⟨i1, i2⟩, ⟨i3, i4⟩, ⟨i5, i6⟩, KF, OF⟩ := finR_tail D5
              have JF : Hid (DStep p F w V3 { st with sure := Dm.kept st kn tn, wait := [], has := false, on := true }) := hide (finR_step KF O5 S5 D5.inp OF)
              clear D5 O5 S5 KF OF J
              go_wp2
              go_ret
              exact ⟨rfl, JF.out⟩
          · rw [hc] at e1
            have et : Dm.dof st.sure (st.wait.take kn) = Dm.kept st kn tn := by
              unfold Dm.kept
              rw [hst]
              simp only [Rv.r, hc, if_true]
            rw [et] at D4
            obtain ⟨V1, V2, V3, g1, g2, g3, ⟨i1, i2⟩, ⟨i3, i4⟩, ⟨i5, i6⟩, KF, OF⟩ := finR_tail D4
            have JF : Hid (DStep p F w V3 { st with sure := Dm.kept st kn tn, wait := [], has := false, on := true }) := hide (finR_step KF O4 S4 D4.inp OF)
            rw [hv] at i1
            clear hcell hr hst hg et hwt hl4 hv D4 O4 S4 KF OF hc HD4
            go_wp2
            go_ret
            exact ⟨rfl, JF.out⟩
        · have hlt' : ¬ (kn : Int) < rs4.length := by omega
          have et : Dm.dof st.sure (st.wait.take kn) = Dm.kept st kn tn := by
            unfold Dm.kept
            rw [List.getElem?_eq_none (by omega)]
          rw [et] at D4
          obtain ⟨V1, V2, V3, g1, g2, g3, ⟨i1, i2⟩, ⟨i3, i4⟩, ⟨i5, i6⟩, KF, OF⟩ := finR_tail D4
          have JF : Hid (DStep p F w V3 { st with sure := Dm.kept st kn tn, wait := [], has := false, on := true }) := hide (finR_step KF O4 S4 D4.inp OF)
          rw [hv] at i1
          clear et hwt hl4 hv D4 O4 S4 KF OF HD4
          go_wp2
          go_ret
          exact ⟨rfl, JF.out⟩
  · rw [hon] at c6
    rw [if_pos (.inl rfl)]
    clear h hon
    go_enter Tryz.func103, Tryz.ntmps103
    go_wp2_with fail
    refine HA.out.mono ?_
    rintro E w1 ⟨rfl, rfl⟩
    go_wp2
    go_ret
    exact ⟨rfl, DStep.same HK.out (Below.refl _ _)⟩

end Go.Proofs.YthmecljkackmbaaGreat
