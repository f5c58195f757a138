/- The contracts of the document's Done and Decode; of the copy that slices.Clone makes of ops, and of Copy. -/
import Derived.Test.YtlfgffldoiedlaaCd
namespace Go.Proofs.Ytlfgffldoiedlaa
open Go.RowKit
set_option linter.unusedVariables false

set_option maxHeartbeats 400000 in
theorem rdone_any (w0 w : World) (g : Nat) (vb : Value) (bs : List Int) (a : Nat) (bad : Bool) (h : Rdr w0 w g vb bs a bad) :
    Calls Try.prog 55 #[.pointer (some ⟨g, 0, none⟩)] w fun E w' => E = .returned (.bool (!bad && decide (a = bs.length))) ∧ ∃ m, w' = w.drewN m := by
  have c0 := h.cell0
  have c1 := h.cell1
  have c2 := h.cell2
  obtain ⟨ao, cap, rfl, _, _⟩ := h.is.shape
  clear h
  go_enter Try.func55, Try.ntmps55
  cases bad
  · by_cases he : a = bs.length
    · have he' : ((a : Int) == (bs.length : Int)) = true := by simp [he]
      have hd : (!false && decide (a = bs.length)) = true := by simp [he]
      rw [hd]
      clear he hd
      go_wp2_with fail
      go_quiet (fail)
      go_wp2
      go_ret
      exact ⟨rfl, _, rfl⟩
    · have he' : ((a : Int) == (bs.length : Int)) = false := by simp; omega
      have hd : (!false && decide (a = bs.length)) = false := by simp [he]
      rw [hd]
      clear he hd
      go_wp2_with fail
      go_quiet (fail)
      go_wp2
      go_ret
      exact ⟨rfl, _, rfl⟩
  · rw [Bool.not_true, Bool.false_and]
    go_wp2_with fail
    go_quiet (fail)
    go_wp2
    go_ret
    exact ⟨rfl, _, rfl⟩

/-- What the reader's three steps come to. -/
theorem doc_steps {bs : List Int} {u n a1 a2 a3 : Nat} {b1 b2 b3 : Bool} {l : List Bm.Ov} (s1 : SStep bs 1048576 0 false u a1 b1) (s2 : SStep bs 1048576 a1 b1 n a2 b2) (s3 : Bm.NX bs a2 b2 l a3 b3) :
    (b3 = true ∧ ∀ e' n' l', Cm.chk e' n' l' = 0 → Cm.encC e' n' l' ≠ bs) ∨
    (b3 = false ∧ Vm.enc u <+: bs ∧ Vm.enc n <+: bs.drop (Vm.sz u) ∧ Bm.chkL l = 0 ∧ Bm.encB l <+: bs.drop (Vm.sz u + Vm.sz n) ∧ a3 = Vm.sz u + Vm.sz n + (Bm.encB l).length) := by
  rcases s1 with ⟨h, _⟩ | ⟨_, rfl, rfl, rfl, h1⟩ | ⟨_, rfl, h1, h2, rfl⟩
  · simp at h
  · rcases s2 with ⟨_, rfl, _⟩ | ⟨h, _⟩ | ⟨h, _⟩
    · rcases s3 with ⟨_, rfl, _⟩ | ⟨h, _⟩
      · exact .inl ⟨rfl, Cm.no_epoch (by simpa [Cm.NoNum] using h1)⟩
      · simp at h
    · simp at h
    · simp at h
  · rw [List.drop_zero] at h2
    rw [Nat.zero_add] at s2
    rcases s2 with ⟨h, _⟩ | ⟨_, rfl, rfl, rfl, k1⟩ | ⟨_, rfl, k1, k2, rfl⟩
    · simp at h
    · rcases s3 with ⟨_, rfl, _⟩ | ⟨h, _⟩
      · exact .inl ⟨rfl, Cm.no_number h2 k1⟩
      · simp at h
    · rcases s3 with ⟨h, _⟩ | ⟨_, ⟨rfl, h⟩ | ⟨rfl, _, h⟩⟩
      · simp at h
      · rcases h with ⟨_, g1, g2, g3⟩ | ⟨h, _⟩
        · exact .inr ⟨rfl, h2, k2, g1, g2, by omega⟩
        · simp at h
      · rcases h with ⟨h, _⟩ | ⟨_, _, _, h⟩
        · simp at h
        · exact .inl ⟨rfl, Cm.no_batch h2 k2 h⟩

theorem sstep_le {bs : List Int} {a u a' : Nat} {b b' : Bool} (h : SStep bs 1048576 a b u a' b') : u ≤ 1048576 := by
  rcases h with ⟨_, _, rfl, _⟩ | ⟨_, _, rfl, _⟩ | ⟨_, _, h, _⟩
  · omega
  · omega
  · exact h

theorem put_one {V : World} {R : Nat} {t : TypeId} {x y z : Value} (hR : V.heap[R]? = some (.cells #[x, y, z] t (0, 0))) (c : Value) :
    ∃ V', V.setCell ⟨R, 2, none⟩ c = V' ∧ V'.heap[R]? = some (.cells #[x, y, c] t (0, 0)) ∧ V.grownBy V' (some R) ∧ V.cell? ⟨R, 2, none⟩ = some z ∧ V.frozen? ⟨R, 2, none⟩ = false :=
  ⟨_, rfl, set_cells hR 2 c, grown_setCell V ⟨R, 2, none⟩ c, blk_cell hR 2 rfl, blk_froz hR 2⟩

theorem nx_small {bs : List Int} {a a' : Nat} {b b' : Bool} {l : List Bm.Ov} (h : Bm.NX bs a b l a' b') : SmallO l ∧ l.length ≤ 8 := by
  rcases h with ⟨_, _, rfl⟩ | ⟨_, ⟨_, h⟩ | ⟨_, rfl, _⟩⟩
  · exact ⟨fun o ho => by simp at ho, by simp⟩
  · exact bres_small h
  · exact ⟨fun o ho => by simp at ho, by simp⟩

set_option maxHeartbeats 2000000 in
theorem cdecR_any (vb : Value) (bs : List Int) (w : World) (hb : Is .u8 w vb bs) (hl : bs.length ≤ 140737488355328) :
    Calls Try.prog 27 #[vb] w fun E w' => ∃ (e n g : Int) (v : Value) (l : List Bm.Ov), E = .returned (.tuple #[cmv e n v, .int .i64 g]) ∧ OwnO 58 w.heap.size w' v l ∧ Cm.CRes bs e n l g ∧ Below w.heap.size w w' := by
  unfold cmv
  obtain ⟨ao, cap, rfl, _, _⟩ := hb.shape
  obtain ⟨w1, hw1, sz1, bel1, hB⟩ := blk_step w #[.int .i64 0, .int .i64 0, .slice none 0 0] 24
  obtain ⟨w2, hw2, sz2, bel2, hG⟩ := blk_step w1 #[.slice ao bs.length cap, .int .i64 0, .bool false] 70
  rw [sz1] at hG
  have bel02 : Below w.heap.size w w2 := bel1.trans (bel2.mono (by omega))
  have r2 : Rdr w w2 (w.heap.size + 1) (.slice ao bs.length cap) bs 0 false := ⟨hb, by omega, bel02, hG, by omega⟩
  have hB2 := (bel2.block w.heap.size (by omega)).trans hB
  have HB2 := hide hB2
  clear hB hB2 hG bel1 bel2 bel02
  go_enter Try.func27, Try.ntmps27
  go_wp2_with fail
  refine (rsmall_any w w2 (w.heap.size + 1) _ bs 0 false 1048576 r2 hl (by omega)).mono ?_
  rintro E w3 ⟨u, a1, b1, rfl, r3, gr3, s1⟩
  have sz3 := gr3.size
  have hB3 := (gr3.block w.heap.size (by omega) (by simp)).trans HB2.out
  have S1 := hide s1
  have hu := sstep_le s1
  have HB3 := hide hB3
  clear HB2 hB3 r2 gr3 s1
  go_wp2_with fail
  refine (rsmall_any w w3 (w.heap.size + 1) _ bs a1 b1 1048576 r3 hl (by omega)).mono ?_
  rintro E w4 ⟨n, a2, b2, rfl, r4, gr4, s2⟩
  have sz4 := gr4.size
  have hB4 := (gr4.block w.heap.size (by omega) (by simp)).trans HB3.out
  have S2 := hide s2
  have hn := sstep_le s2
  clear HB3 r3 gr4 s2
  obtain ⟨V, hV, hV2, szV, belV, bC, c0, c1, c2⟩ := new_step w4 24 (.int .i64 0) (.int .i64 0) (.slice none 0 0) (.int .i64 u) (.int .i64 n) (.slice none 0 0)
  have rV := r4.below belV
  have hBV := (belV.block w.heap.size (by omega)).trans hB4
  have HBV := hide hBV
  have HC := hide bC
  have fz := blk_froz bC 2
  have ss : V.setCell ⟨w4.heap.size, 2, none⟩ (.slice none 0 0) = V := set_same bC (j := 2) rfl
  clear hB4 hBV bC r4 belV c0 c1
  go_wp2_with fail
  refine (bnextR_any w V (w.heap.size + 1) _ bs a2 b2 rV hl).mono ?_
  rintro E w5 ⟨vl, l, a3, b3, rfl, ownl, r5, gr5, s3⟩
  have sz5 := gr5.size
  have hB5 := (gr5.block w.heap.size (by omega) (by simp)).trans HBV.out
  have hC5 := (gr5.block w4.heap.size (by omega) (by simp; omega)).trans HC.out
  obtain ⟨hsm, hl8⟩ := nx_small s3
  have hfit := hsm.fit
  have hst := doc_steps S1.out S2.out s3
  obtain ⟨ah, ch, hvl, _, _⟩ := ownl.is.shape
  subst hvl
  obtain ⟨X, hX, cX, gX, q2, q3⟩ := put_one hC5 (.slice ah l.length ch)
  have szX := gX.size
  have rX := r5.grownB gX (by omega) (by omega)
  have hBX := (gX.block w.heap.size (by omega) (by simp; omega)).trans hB5
  have ownX := ownl.keptg gX (by omega)
  have HX := hide hBX
  have HCX := hide cX
  have HST := hide hst
  clear S1 S2 s3 hst hBX cX gX gr5 r5 hB5 hC5 HBV HC rV hV hV2 hsm fz ss c2
  go_wp2_with fail
  refine (rdone_any w X (w.heap.size + 1) _ bs a3 b3 rX).mono ?_
  rintro E w6 ⟨rfl, mq, rfl⟩
  have bel6 : Below X.heap.size X (X.drewN mq) := below_drewN (Below.refl _ _) mq
  generalize hw6 : X.drewN mq = w6 at *
  have sz6 := bel6.size
  have r6 := rX.below bel6
  have hB6 := (bel6.block w.heap.size (by omega)).trans HX.out
  have hC6 := (bel6.block w4.heap.size (by omega)).trans HCX.out
  have own6 := ownX.below bel6
  have bel06 : Below w.heap.size w w6 := r6.2.2.1
  have c0 := blk_cell hC6 0 rfl
  have c1 := blk_cell hC6 1 rfl
  have c2 := blk_cell hC6 2 rfl
  clear rX r6 ownX HX HCX bel6 q2 q3 hX hw6 hw1 hw2
  have HB6 := hide hB6
  have HC6 := hide hC6
  by_cases hd : b3 = false ∧ a3 = bs.length
  · obtain ⟨rfl, rfl⟩ := hd
    have hdd : (!false && decide (bs.length = bs.length)) = true := by simp
    rw [hdd]
    clear hdd hB6 hC6
    go_wp2_with fail
    refine (ccheckR_any u n _ l _ own6.is hfit (by omega)).mono ?_
    rintro E w7 ⟨rfl, bel7⟩
    have sz7 := bel7.size
    have hB7 := (bel7.block w.heap.size (by omega)).trans HB6.out
    have hC7 := (bel7.block w4.heap.size (by omega)).trans HC6.out
    have own7 := own6.below bel7
    have bel07 := bel06.trans (bel7.mono (by omega))
    have d0 := blk_cell hC7 0 rfl
    have d1 := blk_cell hC7 1 rfl
    have d2 := blk_cell hC7 2 rfl
    clear HB6 HC6 c0 c1 c2 hC7 own6 bel06 bel7
    rcases HST.out with ⟨h, _⟩ | ⟨_, px, py, hc, hp, hk⟩
    · simp at h
    · by_cases hck : Cm.chk u n l = 0
      · rw [hck]
        obtain ⟨V', hV', bV', gV', ⟨a0, a1', a2'⟩, ⟨f0, f1, f2⟩, ⟨z0, z1, z2⟩⟩ := res_step hB7 (.int .i64 u) (.int .i64 n) (.slice ah l.length ch)
        have belV' := below_put bel07 gV' (Nat.le_refl _) (by omega)
        have ownV' := (own7.keptg gV' (by omega)).rebase (base' := w.heap.size) (by omega)
        have HR : Hid (Cm.CRes bs u n l 0) := hide (.inl ⟨rfl, hck, Cm.is_commit px py hp hk.symm⟩)
        clear px py hc hp hk bV' gV' hB7 own7 bel07 hck HST
        go_wp2
        refine bodyPost_ret (v := .tuple #[.agg #[.int .i64 u, .int .i64 n, .slice ah l.length ch], .int .i64 0]) (by simp [results, Try.results27, go_sem, z0, z1, z2]) rfl ?_
        exact ⟨_, _, _, _, _, rfl, ownV', HR.out, belV'⟩
      · have HR : Hid (Cm.CRes bs 0 0 [] 5) := hide (.inr ⟨rfl, rfl, rfl, rfl, Cm.no_left px py hc hp (.inr hck)⟩)
        have hne : (Cm.chk u n l == 0) = false := by simpa using hck
        obtain ⟨V', hV', bV', gV', ⟨a0, a1', a2'⟩, ⟨f0, f1, f2⟩, ⟨z0, z1, z2⟩⟩ := res_step hB7 (.int .i64 0) (.int .i64 0) (.slice none 0 0)
        have belV' := below_put bel07 gV' (Nat.le_refl _) (by omega)
        generalize Cm.chk u n l = ck at *
        clear px py hc hp hk bV' gV' hB7 own7 bel07 hck HST
        go_wp2
        refine bodyPost_ret (v := .tuple #[.agg #[.int .i64 0, .int .i64 0, .slice none 0 0], .int .i64 5]) (by simp [results, Try.results27, go_sem, z0, z1, z2]) rfl ?_
        exact ⟨_, _, _, _, _, rfl, OwnO.nil _ _ _, HR.out, belV'⟩
  · have hdd : (!b3 && decide (a3 = bs.length)) = false := by
      cases b3
      · simpa using hd
      · rfl
    rw [hdd]
    have HR : Hid (Cm.CRes bs 0 0 [] 5) := hide (.inr ⟨rfl, rfl, rfl, rfl, by
      rcases HST.out with ⟨_, h⟩ | ⟨h, px, py, hc, hp, hk⟩
      · exact h
      · exact Cm.no_left px py hc hp (.inl fun e => hd ⟨h, by omega⟩)⟩)
    obtain ⟨V', hV', bV', gV', ⟨a0, a1', a2'⟩, ⟨f0, f1, f2⟩, ⟨z0, z1, z2⟩⟩ := res_step hB6 (.int .i64 0) (.int .i64 0) (.slice none 0 0)
    have belV' := below_put bel06 gV' (Nat.le_refl _) (by omega)
    clear hd hdd HST bV' gV' hB6 hC6 own6 bel06 HB6 HC6
    go_wp2
    refine bodyPost_ret (v := .tuple #[.agg #[.int .i64 0, .int .i64 0, .slice none 0 0], .int .i64 5]) (by simp [results, Try.results27, go_sem, z0, z1, z2]) rfl ?_
    exact ⟨_, _, _, _, _, rfl, OwnO.nil _ _ _, HR.out, belV'⟩

set_option maxHeartbeats 400000 in
theorem cloneO_any (vl : Value) (l : List Bm.Ov) (w : World) (h : IsO w vl l) (hl : l.length * 40 ≤ 140737488351232) :
    Calls Try.prog 43 #[vl] w fun e w' => ∃ v, e = .returned v ∧ OwnO 58 w.heap.size w' v l ∧ Below w.heap.size w w' := by
  have q : ∀ (w : World) (a : Option Addr) (n c n' c' : Nat), (binOp .eql 22 (.slice a n c) (.slice none n' c')).run Try.prog w = .ok (.bool a.isNone) w := fun w a n c n' c' => Lib.run_eql_slice_nil w _ _ a n c n' c' Try.underlying22
  by_cases hn : vl = .slice none 0 0
  · subst hn
    have : l = [] := by
      rcases h with ⟨_, h⟩ | ⟨ad, cap, h, _⟩
      · exact h
      · simp at h
    subst this
    clear h hl
    go_enter Try.func43, Try.ntmps43
    go_wp2
    go_ret
    exact ⟨_, rfl, OwnO.nil _ _ _, Below.refl _ _⟩
  · obtain ⟨ad, cap, rfl⟩ : ∃ ad cap, vl = .slice (some ad) l.length cap := by
      rcases h with ⟨h, _⟩ | ⟨ad, cap, h, _⟩
      · exact absurd h hn
      · exact ⟨ad, cap, h⟩
    clear hn
    obtain ⟨w1, hw1, sz1, bel1, own1⟩ := ops_step 58 w #[] 0 [] rfl rfl (by simp [maxLen])
    have h1 := h.below bel1
    go_enter Try.func43, Try.ntmps43
    go_wp2_with (at_builtin; refine wpList_append_ops rfl (.tmp 5) (.tmp 6) 22 rfl 58 w.heap.size Try.underlying22 Try.info58 _ [] rfl own1 _ l rfl h1 (by simp; omega) (by omega) ?_)
    intro v2 w2 own2 bel2 _
    go_wp2
    go_ret
    exact ⟨_, rfl, by simpa using own2, bel1.trans bel2⟩

set_option maxHeartbeats 400000 in
theorem ccopy_any (e n : Int) (v : Value) (l : List Bm.Ov) (w : World) (h : IsO w v l) (hl : l.length * 40 ≤ 140737488351232) :
    Calls Try.prog 17 #[cmv e n v] w fun E w' => ∃ v', E = .returned (cmv e n v') ∧ OwnO 58 w.heap.size w' v' l ∧ Below w.heap.size w w' := by
  unfold cmv
  obtain ⟨w1, hw1, sz1, bel1, hB⟩ := blk_step w #[.int .i64 e, .int .i64 n, v] 24
  obtain ⟨w2, hw2, sz2, bel2, hR⟩ := blk_step w1 #[.int .i64 0, .int .i64 0, .slice none 0 0] 24
  rw [sz1] at hR
  have hB2 := (bel2.block w.heap.size (by omega)).trans hB
  have bel02 : Below w.heap.size w w2 := bel1.trans (bel2.mono (by omega))
  have h2 := h.below bel02
  obtain ⟨ao, cap, rfl, _, _⟩ := h.shape
  have c2 := blk_cell hB2 2 rfl
  have HB := hide hB2
  have HR := hide hR
  clear hB hB2 hR bel1 bel2
  go_enter Try.func17, Try.ntmps17
  go_wp2_with fail
  refine (cloneO_any _ l _ h2 hl).mono ?_
  rintro E w3 ⟨v3, rfl, own3, bel3⟩
  have sz3 := bel3.size
  have hB3 := (bel3.block w.heap.size (by omega)).trans HB.out
  have hR3 := (bel3.block (w.heap.size + 1) (by omega)).trans HR.out
  have bel03 := bel02.trans (bel3.mono (by omega))
  obtain ⟨ah, ch, hvl, _, _⟩ := own3.is.shape
  subst hvl
  obtain ⟨X, hX, cX, gX, q2, q3⟩ := put_one hB3 (.slice ah l.length ch)
  have szX := gX.size
  have hRX := (gX.block (w.heap.size + 1) (by omega) (by simp)).trans hR3
  have ownX := own3.keptg gX (by omega)
  have bel0X := below_put bel03 gX (Nat.le_refl _) (by omega)
  have d0 := blk_cell cX 0 rfl
  have d1 := blk_cell cX 1 rfl
  have d2 := blk_cell cX 2 rfl
  obtain ⟨V', hV', bV', gV', ⟨a0, a1, a2⟩, ⟨f0, f1, f2⟩, ⟨z0, z1, z2⟩⟩ := res_step hRX (.int .i64 e) (.int .i64 n) (.slice ah l.length ch)
  have belV' := below_put bel0X gV' (by omega) (by omega)
  have ownV' := (ownX.keptg gV' (by omega)).rebase (base' := w.heap.size) (by omega)
  clear HB HR hB3 hR3 cX gX hRX bV' gV' own3 ownX bel03 bel0X bel3 c2
  go_wp2
  refine bodyPost_ret (v := .agg #[.int .i64 e, .int .i64 n, .slice ah l.length ch]) (by simp [results, Try.results17, go_sem, z0, z1, z2]) rfl ?_
  exact ⟨_, rfl, ownV', belV'⟩

end Go.Proofs.Ytlfgffldoiedlaa
