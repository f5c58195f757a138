/- The document's disk: Cut, Sync, Start. -/
import Derived.Test.YteklbnonikccaaaDe
namespace Go.Proofs.Yteklbnonikccaaa
open Go.RowKit Go.Shelf
set_option linter.unusedVariables false

theorem rawc_one (rs : List Rv) (h : ∀ r ∈ rs, ∃ a n c, r.v = .slice a n c) : ∀ u ∈ gcells rawc rs, u.oneCell' = true := by
  induction rs with
  | nil => simp [gcells]
  | cons r l ih =>
    intro u hu
    rw [gcells, List.mem_append] at hu
    rcases hu with hu | hu
    · obtain ⟨a, n, c, hv⟩ := h r (by simp)
      simp only [rawc, List.mem_cons, List.not_mem_nil, or_false] at hu
      rcases hu with rfl | rfl | rfl | rfl
      · rfl
      · rfl
      · rfl
      · rw [hv]; rfl
    · exact ih (fun r hr => h r (by simp [hr])) u hu

theorem Try.info75 : (Try.prog.info? 75).map (fun i => (i.zero, i.size, i.bytes)) = some (some (.agg #[.int .i64 0, .bool false, .int .i64 0, .slice none 0 0]), 4, 48) := by kernel_rfl

/-- A raw step becomes pending. -/
theorem pushR_tail {p : Nat} {F : Nat → Prop} {W W' : World} {st : Dm.Ds} {s : Nat → Value} {wv : Value} {rs : List Rv} (h : DkV p F W st s wv rs) (hW : Below W.heap.size W W') (hsz : W'.heap.size = W.heap.size ∨ True) (r : Rv) (hraw : Byt (fun _ => True) W' r.v r.bytes) (hfit : Dm.fits (Dm.dof st.sure st.wait) r.r) (hlen : rs.length ≤ 1000000) :
    ∃ V, W'.alloc (.cells #[.int .i64 r.file, .bool r.cut, .int .i64 r.to, r.v] 75) = V ∧ V.cell? ⟨p, 5, none⟩ = some wv ∧ Hid (∀ ty, ∃ v' w', (Builtin.append_ #[69, 69] ty #[wv, .slice (some ⟨W'.heap.size, 0, none⟩) 1 1]).run Try.prog V = .ok v' w' ∧
      ((∃ F', Dk p F' (w'.setCell ⟨p, 5, none⟩ v') (Dm.push st r.r) ∧ Out F W (w'.setCell ⟨p, 5, none⟩ v') ∧ ∀ g, F' g → F g ∨ W.heap.size ≤ g ∨ r.v.ownBlock = some g) ∧ w'.cell? ⟨p, 5, none⟩ = some wv ∧ w'.frozen? ⟨p, 5, none⟩ = false ∧ ∃ a n c, v' = .slice a n c)) := by
  obtain ⟨V, hV, szV, belV, rowV⟩ := rows_step rawc 4 rawc_len 75 W' #[.int .i64 r.file, .bool r.cut, .int .i64 r.to, r.v] 1 [r] rfl rfl (by decide)
  have belV' : Below W.heap.size W V := hW.trans (belV.mono hW.size)
  have hV1 := h.below belV'
  refine ⟨V, hV, hV1.c5, hide fun ty => ?_⟩
  obtain ⟨v', w', hr, own', gr', at'⟩ := run_append_rows_at (P := Try.prog) 69 ty rawc 4 48 rawc_len (by decide) (by decide) (.agg #[.int .i64 0, .bool false, .int .i64 0, .slice none 0 0]) rfl 75 0 Try.underlying69 Try.info75 wv rs hV1.row _ [r] rowV.row (rawc_one [r] fun q hq => by simp at hq; subst hq; exact hraw.1.form) (by simp; omega) (Nat.zero_le _)
  have out' : Out (fun g => wv.ownBlock = some g) V w' := Out.of_grown gr' fun g hg => hg
  have nu : ∀ (v : Value) (zs : List Int) (G : Nat → Prop), Byt G V v zs → Byt G w' v zs := fun v zs G hB => hB.agree fun b hb => by
    obtain ⟨_, cs, fr, hc⟩ := hB.2 b hb
    refine out'.block b (blk_lt hc) fun h1 => ?_
    obtain ⟨cs', hc'⟩ := hV1.row.type h1
    rw [hc] at hc'
    simp at hc'
  have hrawV : Byt (fun _ => True) V r.v r.bytes := hraw.agree fun b hb => by obtain ⟨_, cs, fr, hc⟩ := hraw.2 b hb; exact belV.block b (blk_lt hc)
  have hp' : w'.heap[p]? = some (.cells (dcells s wv st.on st.has st.left st.count) 71 (0, 0)) := (out'.block p (blk_lt hV1.blk) fun h1 => by
    obtain ⟨cs', hc'⟩ := hV1.row.type h1
    rw [hV1.blk] at hc'
    simp at hc').trans hV1.blk
  obtain ⟨F', hF'⟩ : ∃ F' : Nat → Prop, F' = fun g => F g ∨ v'.ownBlock = some g ∨ r.v.ownBlock = some g := ⟨_, rfl⟩
  have hlt : ∀ g, F' g → g < w'.heap.size := by
    rw [hF']
    rintro g (h1 | h1 | h1)
    · exact Nat.lt_of_lt_of_le (hV1.lt g h1) out'.size
    · exact (own'.lt g h1).2
    · obtain ⟨_, cs, fr, hc⟩ := hrawV.2 g h1
      exact Nat.lt_of_lt_of_le (blk_lt hc) out'.size
  have hsub : ∀ g, F g → F' g := fun g hg => by rw [hF']; exact .inl hg
  obtain ⟨R1, R2⟩ := DkW.put (F := F') (st' := Dm.push st r.r) (s' := s) (wv' := v') (rs' := rs ++ [r]) hp' (hsub p hV1.inp) hlt 5 v' rfl (fun f hf => nu _ _ _ ((hV1.file f hf).mono hsub)) own' (fun b hb => by rw [hF']; exact .inr (.inl hb)) (fun q hq => by
    rcases List.mem_append.1 hq with hq | hq
    · exact nu _ _ _ ((hV1.raw q hq).mono hsub)
    · simp at hq
      subst hq
      have := nu _ _ _ hrawV
      exact ⟨this.1, fun b hb => ⟨by rw [hF']; exact .inr (.inr hb), (this.2 b hb).2⟩⟩) (by rw [List.map_append, h.wait]; rfl)
  refine ⟨v', w', hr, ⟨F', ⟨s, v', rs ++ [r], R1.toV (ok_push h.ok hfit)⟩, ?_, fun g hg => ?_⟩, blk_cell hp' 5 rfl, blk_froz hp' 5, ?_⟩
  · have h1 : Out F W w' := (Out.of_below (F := F) belV').trans out' fun g hg => .inl (h.inr g hg)
    exact h1.trans R2 fun g hg => .inl (hg ▸ h.inp)
  · rw [hF'] at hg
    rcases hg with h1 | h1 | h1
    · exact .inl h1
    · rcases at' with h2 | h2
      · exact .inl (h.inr g (by rw [← h2]; exact h1))
      · rw [h1] at h2
        simp at h2
        exact .inr (.inl (by have := belV'.size; omega))
    · exact .inr (.inr h1)
  · obtain ⟨a, c, hv, _⟩ := own'.row.shape
    exact ⟨a, _, c, hv⟩

theorem not_inF {file : Int} (h : Dm.inF file = false) : file < 0 ∨ (¬ file < 0 ∧ 4 ≤ file) := by
  simp [Dm.inF] at h
  omega

set_option maxHeartbeats 4000000 in
theorem cutR_any (p : Nat) (F : Nat → Prop) (w : World) (st : Dm.Ds) (file len : Int) (h : Dk p F w st) (hsz : ∀ f, (st.sure f).length + Dm.bulk st.wait ≤ 140737488355000) (hlen : st.wait.length ≤ 1000000) (hl : st.left ≤ 9223372036854775807) (hc : st.count < 9223372036854775807) :
    Calls Try.prog 45 #[.pointer (some ⟨p, 0, none⟩), .int .i64 file, .int .i64 len] w fun E w' => E = .returned (.int .i64 (Dm.cutD st file len).1) ∧ DStep p F w w' (Dm.cutD st file len).2 := by
  have HA := hide (askedR_any p F w st h)
  have HK := hide h
  unfold Dm.cutD
  cases hon : st.on
  · rw [if_pos rfl]
    have hk := ask_off hon
    clear hon h
    go_enter Try.func45, Try.ntmps45
    go_wp2_with fail
    refine HA.out.mono ?_
    rintro E w1 ⟨rfl, rfl⟩
    rw [hk]
    go_wp2
    go_ret
    exact ⟨rfl, DStep.same HK.out (Below.refl _ _)⟩
  · rw [if_neg (by simp)]
    have hk := ask_on hon
    cases hin : Dm.inF file
    · rw [if_pos rfl]
      have hcase := not_inF hin
      clear hon h hin
      rcases hcase with hc1 | ⟨hc1, hc2⟩
      all_goals
        go_enter Try.func45, Try.ntmps45
        go_wp2_with fail
        refine HA.out.mono ?_
        rintro E w1 ⟨rfl, rfl⟩
        rw [hk]
        go_wp2
        go_ret
        exact ⟨rfl, DStep.same HK.out (Below.refl _ _)⟩
    · rw [if_neg (by simp)]
      obtain ⟨f, hf, rfl⟩ := inF_nat hin
      rw [Int.toNat_natCast]
      have hf0 : ¬ (f : Int) < 0 := by omega
      have hf4 : ¬ (4 : Int) ≤ (f : Int) := by omega
      by_cases hneg : len < 0
      · rw [if_pos (.inl hneg)]
        clear hon h hin
        go_enter Try.func45, Try.ntmps45
        go_wp2_with fail
        refine HA.out.mono ?_
        rintro E w1 ⟨rfl, rfl⟩
        rw [hk]
        go_wp2
        go_ret
        exact ⟨rfl, DStep.same HK.out (Below.refl _ _)⟩
      · obtain ⟨l, rfl⟩ : ∃ l : Nat, len = l := ⟨len.toNat, by omega⟩
        have hhl := Dm.hold_len st.wait (st.sure f) f
        have hszf := hsz f
        have HH := hide (holdsR_any p F w st f h hf hszf hlen)
        have hneg' : ¬ (l : Int) < 0 := hneg
        by_cases hbig : (Dm.hold f (st.sure f) st.wait).length < l
        · rw [if_pos (.inr (by omega))]
          have hgt : ((Dm.hold f (st.sure f) st.wait).length : Int) < (l : Int) := by omega
          obtain ⟨H, hH⟩ : ∃ H, H = Dm.hold f (st.sure f) st.wait := ⟨_, rfl⟩
          rw [← hH] at HH hgt
          clear hon h hin hbig hhl hH hneg
          go_enter Try.func45, Try.ntmps45
          go_wp2_with fail
          refine HA.out.mono ?_
          rintro E w1 ⟨rfl, rfl⟩
          rw [hk]
          go_wp2_with fail
          refine HH.out.mono ?_
          rintro E w2 ⟨v2, rfl, own2, bel2⟩
          obtain ⟨a2, k2, hv2, _, _⟩ := own2.is.shape
          subst hv2
          go_wp2
          go_ret
          exact ⟨rfl, DStep.same HK.out bel2⟩
        · rw [if_neg (by omega)]
          have hgt : ¬ ((Dm.hold f (st.sure f) st.wait).length : Int) < (l : Int) := by omega
          have hfit : Dm.fits (Dm.dof st.sure st.wait) ⟨f, true, l, []⟩ := ⟨hf, fun _ => by rw [← Dm.hold_dof]; show l ≤ (Dm.hold f (st.sure f) st.wait).length; omega, fun hc => by cases hc⟩
          have ST : Hid (∀ w2, Below w.heap.size w w2 → Calls Try.prog 60 #[.pointer (some ⟨p, 0, none⟩)] w2 fun E w' => E = .returned (.int .i64 (if Dm.off st then 6 else 0)) ∧ DStep p F w w' (if Dm.off st then Dm.dark st else Dm.burn st)) := hide fun w2 hb => by
            refine (stepR_any p F w2 st (h.below hb) hl hc).mono ?_
            rintro E w' ⟨rfl, J⟩
            exact ⟨rfl, J.trans (Out.of_below hb) fun g hg => .inl hg⟩
          obtain ⟨H, hH⟩ : ∃ H, H = Dm.hold f (st.sure f) st.wait := ⟨_, rfl⟩
          rw [← hH] at HH hgt
          have HFIT := hide hfit
          clear hon h hin hbig hhl hH hneg hfit
          cases hoff : Dm.off st
          · rw [hoff] at ST
            simp only [Bool.false_eq_true, if_false] at ST
            rw [if_neg (by simp)]
            simp only [Int.toNat_natCast]
            go_enter Try.func45, Try.ntmps45
            go_wp2_with fail
            refine HA.out.mono ?_
            rintro E w1 ⟨rfl, rfl⟩
            rw [hk]
            go_wp2_with fail
            refine HH.out.mono ?_
            rintro E w2 ⟨v2, rfl, own2, bel2⟩
            obtain ⟨a2, k2, hv2, _, _⟩ := own2.is.shape
            subst hv2
            have HST := hide (ST.out w2 bel2)
            clear own2
            go_wp2_with fail
            refine HST.out.mono ?_
            rintro E w3 ⟨rfl, F3, ⟨s3, wv3, rs3, K3⟩, O3, S3⟩
            have hlr3 := K3.len
            have hbw : (Dm.burn st).wait.length = st.wait.length := rfl
            obtain ⟨V, hV, c5, X⟩ := pushR_tail K3 (Below.refl _ _) (.inr trivial) ⟨f, true, l, .slice none 0 0, []⟩ (Byt.nil _ _) HFIT.out (by omega)
            have c5' := K3.c5
            have HO3 := hide O3
            have HS3 := hide S3
            clear K3 O3 S3
            go_wp2_with (at_builtin; refine wpList_append_at rfl (.tmp 40) (.tmp 44) 69 rfl wv3 (.slice (some ⟨w3.heap.size, 0, none⟩) 1 1) rfl rfl X.out ?_)
            intro v4 w4 F' q1 q2 q3 d5 f5 a4 n4 k4 hv4
            subst hv4
            have J : Hid (DStep p F w (w4.setCell ⟨p, 5, none⟩ (.slice a4 n4 k4)) (Dm.push (Dm.burn st) ⟨f, true, l, []⟩)) := hide (by
              refine ⟨F', q1, HO3.out.trans q2 HS3.out, fun g hg => ?_⟩
              rcases q3 g hg with h | h | h
              · exact HS3.out g h
              · exact .inr (Nat.le_trans HO3.out.size h)
              · simp [Value.ownBlock] at h)
            clear q1 q2 q3
            go_wp2
            go_ret
            exact ⟨rfl, J.out⟩
          · rw [hoff] at ST
            simp only [if_true] at ST
            rw [if_pos rfl]
            go_enter Try.func45, Try.ntmps45
            go_wp2_with fail
            refine HA.out.mono ?_
            rintro E w1 ⟨rfl, rfl⟩
            rw [hk]
            go_wp2_with fail
            refine HH.out.mono ?_
            rintro E w2 ⟨v2, rfl, own2, bel2⟩
            obtain ⟨a2, k2, hv2, _, _⟩ := own2.is.shape
            subst hv2
            have HST := hide (ST.out w2 bel2)
            clear own2
            go_wp2_with fail
            refine HST.out.mono ?_
            rintro E w3 ⟨rfl, J⟩
            have J := hide J
            go_wp2
            go_ret
            exact ⟨rfl, J.out⟩

theorem dof_all {st : Dm.Ds} (n : Nat) (hn : n = st.wait.length) : st.wait.take n = st.wait := by rw [hn, List.take_of_length_le (Nat.le_refl _)]

set_option maxHeartbeats 4000000 in
theorem syncR_any (p : Nat) (F : Nat → Prop) (w : World) (st : Dm.Ds) (h : Dk p F w st) (hsz : ∀ f, (st.sure f).length + Dm.bulk st.wait ≤ 140737488355000) (hlen : st.wait.length ≤ 1000000) (hl : st.left ≤ 9223372036854775807) (hc : st.count < 9223372036854775807) :
    Calls Try.prog 46 #[.pointer (some ⟨p, 0, none⟩)] w fun E w' => E = .returned (.int .i64 (Dm.sync st).1) ∧ DStep p F w w' (Dm.sync st).2 := by
  have HA := hide (askedR_any p F w st h)
  have HST := hide (stepR_any p F w st h hl hc)
  have HK := hide h
  clear h
  unfold Dm.sync
  cases hon : st.on
  · rw [if_pos rfl]
    have hk := ask_off hon
    clear hon
    go_enter Try.func46, Try.ntmps46
    go_wp2_with fail
    refine HA.out.mono ?_
    rintro E w1 ⟨rfl, rfl⟩
    rw [hk]
    go_wp2
    go_ret
    exact ⟨rfl, DStep.same HK.out (Below.refl _ _)⟩
  · rw [if_neg (by simp)]
    have hk := ask_on hon
    clear hon
    cases hoff : Dm.off st
    · rw [hoff] at HST
      simp only [Bool.false_eq_true, if_false] at HST
      rw [if_neg (by simp)]
      go_enter Try.func46, Try.ntmps46
      go_wp2_with fail
      refine HA.out.mono ?_
      rintro E w1 ⟨rfl, rfl⟩
      rw [hk]
      go_wp2_with fail
      refine HST.out.mono ?_
      rintro E w3 ⟨rfl, F3, K3, O3, S3⟩
      have KP := hide (keepR_any p F3 w3 (Dm.burn st) (Dm.burn st).wait.length (by show st.wait.length ≤ _; omega) K3 hsz hlen)
      obtain ⟨s3, wv3, rs3, K3⟩ := K3
      have hlr3 := K3.len
      have c5 := K3.c5
      obtain ⟨ao, cap, hv, _, _⟩ := K3.row.row.shape
      rw [hv] at c5
      rw [hlr3] at KP
      have HL3 := hide hlr3
      have HO3 := hide O3
      have HS3 := hide S3
      clear K3 O3 S3 hv hlr3
      go_wp2_with fail
      refine KP.out.mono ?_
      rintro E w4 ⟨⟨v4, rfl⟩, wv4, rs4, s4, F4, D4, O4, S4⟩
      have c5' : w4.cell? ⟨p, 5, none⟩ = some wv4 := blk_cell D4.blk 5 rfl
      have f5' := blk_froz D4.blk 5
      rw [dof_all _ HL3.out.symm] at D4
      obtain ⟨R1, R2⟩ := DkW.put (F := F4) (st' := Dm.flush (Dm.burn st)) (s' := s4) (wv' := .slice none 0 0) (rs' := []) D4.blk D4.inp D4.lt 5 (.slice none 0 0) rfl D4.file (OwnG.nil _ _ _ _ _) (fun b hb => by simp [Value.ownBlock] at hb) (fun r hr => by simp at hr) rfl
      have J : Hid (DStep p F w (w4.setCell ⟨p, 5, none⟩ (.slice none 0 0)) (Dm.flush (Dm.burn st))) := hide ⟨F4, ⟨_, _, _, R1.toV trivial⟩, (HO3.out.trans O4 HS3.out).trans R2 (fun g hg => by
        rcases S4 p D4.inp with h | h
        · rcases HS3.out p h with h | h
          · exact .inl (hg ▸ h)
          · exact .inr (hg ▸ h)
        · exact .inr (by have := HO3.out.size; omega)), fun g hg => by
        rcases S4 g hg with h | h
        · exact HS3.out g h
        · exact .inr (Nat.le_trans HO3.out.size h)⟩
      clear R1 R2 D4 O4 S4
      go_wp2
      go_ret
      exact ⟨rfl, J.out⟩
    · rw [hoff] at HST
      simp only [if_true] at HST
      rw [if_pos rfl]
      go_enter Try.func46, Try.ntmps46
      go_wp2_with fail
      refine HA.out.mono ?_
      rintro E w1 ⟨rfl, rfl⟩
      rw [hk]
      go_wp2_with fail
      refine HST.out.mono ?_
      rintro E w3 ⟨rfl, J⟩
      have J := hide J
      go_wp2
      go_ret
      exact ⟨rfl, J.out⟩

end Go.Proofs.Yteklbnonikccaaa
