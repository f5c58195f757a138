/- The walk of CommitCalls. -/
import Derived.Test.YtlfgffldoiedlaaCl
import Derived.Test.YtlfgffldoiedlaaCe
import Derived.Test.YtlfgffldoiedlaaCp
import Derived.Test.YtlfgffldoiedlaaBap
import Derived.Test.YtlfgffldoiedlaaApart
namespace Go.Proofs.Ytlfgffldoiedlaa
open Go.RowKit
set_option linter.unusedVariables false

/-- Three cells of a block. -/
def C3 (w : World) (b : Nat) (x y z : Value) : Prop := w.cell? ⟨b, 0, none⟩ = some x ∧ w.cell? ⟨b, 1, none⟩ = some y ∧ w.cell? ⟨b, 2, none⟩ = some z

theorem C3.below {w w' : World} {b B : Nat} {x y z : Value} (h : C3 w b x y z) (hb : Below B w w') (hB : b < B) : C3 w' b x y z :=
  ⟨(hb.cell (p := ⟨b, 0, none⟩) hB).trans h.1, (hb.cell (p := ⟨b, 1, none⟩) hB).trans h.2.1, (hb.cell (p := ⟨b, 2, none⟩) hB).trans h.2.2⟩

theorem C3.of {w : World} {b : Nat} {x y z : Value} {t : TypeId} {fr : Nat × Nat} (h : w.heap[b]? = some (.cells #[x, y, z] t fr)) : C3 w b x y z := ⟨blk_cell h 0 rfl, blk_cell h 1 rfl, blk_cell h 2 rfl⟩

/-- The twelve cells of the law's four variables. -/
def C12 (w : World) (b1 b2 b3 b4 : Nat) (e n v e' n' v' v3 v4 : Value) : Prop := C3 w b1 e n v ∧ C3 w b2 e' n' v' ∧ C3 w b3 e n v3 ∧ C3 w b4 e n v4

theorem C12.below {w w' : World} {b1 b2 b3 b4 B : Nat} {e n v e' n' v' v3 v4 : Value} (h : C12 w b1 b2 b3 b4 e n v e' n' v' v3 v4) (hb : Below B w w') (h1 : b1 < B) (h2 : b2 < B) (h3 : b3 < B) (h4 : b4 < B) : C12 w' b1 b2 b3 b4 e n v e' n' v' v3 v4 :=
  ⟨h.1.below hb h1, h.2.1.below hb h2, h.2.2.1.below hb h3, h.2.2.2.below hb h4⟩

theorem LentV.own {base : Nat} {w : World} {v : Value} {l : List Bm.Ov} (h : LentV base w v l) : OwnO 58 base w v l := by
  obtain ⟨g, cap, rfl, hc, hm, ho⟩ := h
  have ho' : w.ownsRow base 58 3 (.slice (some ⟨g, 0, none⟩) (l.length + 3) cap) (l.length + 3) (ocells (l ++ [behind, behind, behind])) := by
    have := ho
    unfold OwnO at this
    rw [List.length_append] at this
    exact this
  have := own_frontO ho' l.length (by omega)
  rw [← ocells_take, List.take_left] at this
  exact this

/-- What ApartBytes leaves: blocks of another type. -/
theorem keepT_of_lists {m bl base : Nat} {w w' : World} {vs : Nat → Value} {zs : Nat → List Int} (H : Lists m bl base w vs zs) (hk : ∀ g, g < w.heap.size → (∀ i, i < m → (vs i).ownBlock ≠ some g) → w'.heap[g]? = w.heap[g]?) : KeepT 5 w w' := by
  intro g cs t fr hg ht
  refine (hk g (blk_lt hg) fun i hi e => ?_).trans hg
  obtain ⟨cs', h'⟩ := (H.own i hi).block_type e
  rw [h'] at hg
  simp at hg
  exact ht hg.2.1.symm

theorem listsO_pair {base : Nat} {w : World} {va vf : Value} {za zf : List Bm.Ov} {s1 : Nat} (ha : OwnO 58 s1 w va za) (hf : OwnO 58 base w vf zf)
    (h1 : ∀ b, vf.ownBlock = some b → b < s1) (hb1 : base ≤ s1) (la : za.length ≤ 1000) (lf : zf.length ≤ 1000) (fa : FitO za) (ff : FitO zf) :
    ListsO 2 w.heap.size base (w.alloc (.cells #[va, vf] 22)) (duo va vf) (duo za zf) := by
  have bel : Below w.heap.size w (w.alloc (.cells #[va, vf] 22)) := (Below.refl _ _).alloc (Nat.le_refl _) _
  have ha' := (ha.below bel).rebase (by omega : base ≤ s1)
  have hf' := hf.below bel
  have two : ∀ i, i < 2 → i = 0 ∨ i = 1 := by omega
  have ba := ha.block
  have bf := hf.block
  refine ⟨fun i hi => ?_, fun i hi => ?_, fun i j hi hj hne => ?_, fun i hi => ?_, fun i hi => ?_, fun i hi => ?_⟩
  · rcases two i hi with rfl | rfl <;> simp [duo]
  · rcases two i hi with rfl | rfl
    · exact ha'
    · exact hf'
  · have key : ∀ u v : Value, (∀ b d, u.ownBlock = some b → v.ownBlock = some d → b ≠ d) → u.ownBlock = none ∨ u.ownBlock ≠ v.ownBlock := by
      intro u v h
      cases hu : u.ownBlock with
      | none => exact .inl rfl
      | some b => exact .inr fun e => h b b hu e.symm rfl
    rcases two i hi with rfl | rfl <;> rcases two j hj with rfl | rfl <;> first | exact absurd rfl hne | skip
    all_goals
      refine key _ _ fun b d hb hd => ?_
      simp only [duo] at hb hd
    · have := ba b hb; have := h1 d hd; omega
    · have := h1 b hb; have := ba d hd; omega
  · intro e
    rcases two i hi with rfl | rfl
    · have := ba _ e; omega
    · have := bf _ e; omega
  · rcases two i hi with rfl | rfl
    · exact la
    · exact lf
  · rcases two i hi with rfl | rfl
    · exact fa
    · exact ff

set_option maxRecDepth 100000 in
set_option maxHeartbeats 8000000 in
theorem commitCalls_walk (ce cn : Int) (cv : Value) (cl : List Bm.Ov) (de dn : Int) (dv : Value) (dl : List Bm.Ov) (w : World) (h1 : In64 ce) (h2 : In64 cn) (hc : IsO w cv cl) (hfc : FitO cl) (hlc : cl.length * 40 ≤ 140737488351232) (h3 : In64 de) (h4 : In64 dn) (hd : IsO w dv dl) (hfd : FitO dl) (hld : dl.length * 40 ≤ 140737488351232) :
    Calls Try.prog 4 #[.agg #[.int .i64 ce, .int .i64 cn, cv], .agg #[.int .i64 de, .int .i64 dn, dv]] w fun e w' => e = .returned (.bool true) ∧ Below w.heap.size w w' := by
  obtain ⟨w1, hw1, sz1, bel1, hB⟩ := blk_step w #[.int .i64 ce, .int .i64 cn, cv] 24
  obtain ⟨w2, hw2, sz2, bel2, hC⟩ := blk_step w1 #[.int .i64 de, .int .i64 dn, dv] 24
  rw [sz1] at hC
  have hB2 := (bel2.block _ (blk_lt hB)).trans hB
  have bel02 : Below w.heap.size w w2 := bel1.trans (bel2.mono (by omega))
  have hc2 := hc.below bel02
  have hd2 := hd.below bel02
  obtain ⟨ac, kc, hcv, _, _⟩ := hc.shape
  subst hcv
  obtain ⟨ad, kd, hdv, _, _⟩ := hd.shape
  subst hdv
  have b0 := blk_cell hB2 0 rfl
  have b1 := blk_cell hB2 1 rfl
  have b2 := blk_cell hB2 2 rfl
  have d2 := blk_cell hC 2 rfl
  have HB := hide hB2
  have HD := hide hC
  clear hB hC hB2 bel1 bel2
  go_enter Try.func4, Try.ntmps4
  by_cases hg1 : 20 < cl.length
  · have hg1' : (20 : Int) < cl.length := by omega
    go_wp2_with fail
    refine (lives_any _).mono ?_
    rintro E w3 ⟨rfl, bel3⟩
    go_wp2
    go_ret
    exact ⟨rfl, bel02.trans (bel3.mono (by omega))⟩
  have hg1' : ¬ (20 : Int) < cl.length := by omega
  by_cases hg2 : 20 < dl.length
  · have hg2' : (20 : Int) < dl.length := by omega
    go_wp2_with fail
    refine (lives_any _).mono ?_
    rintro E w3 ⟨rfl, bel3⟩
    go_wp2
    go_ret
    exact ⟨rfl, bel02.trans (bel3.mono (by omega))⟩
  have hg2' : ¬ (20 : Int) < dl.length := by omega
  have hol := Cm.out_small ce cn cl
  go_wp2_with fail
  refine (lentC_any ce cn _ cl _ hc2 hlc).mono ?_
  rintro E w3 ⟨v3, rfl, len3, bel3⟩
  unfold cmv
  have sz3 := bel3.size
  obtain ⟨a3, k3, hv3, _, _⟩ := len3.is.shape
  subst hv3
  obtain ⟨V, hV, hV2, szV, belV, bL, l0, l1, l2⟩ := new_step w3 24 (.int .i64 0) (.int .i64 0) (.slice none 0 0) (.int .i64 ce) (.int .i64 cn) (.slice a3 cl.length k3)
  have bel2V : Below w2.heap.size w2 V := bel3.trans (belV.mono (by omega))
  have lenV := len3.below belV
  have HL := hide bL
  have HLB := hide lenV.own.block
  clear bL belV bel3 len3 d2 b0 b1 b2
  go_wp2_with fail
  refine (cenc_any ce cn _ cl _ lenV.is hfc (by omega)).mono ?_
  rintro E w4 ⟨va, rfl, owna, bel4⟩
  have sz4 := bel4.size
  have len4 := lenV.below bel4
  have hL4 := (bel4.block w3.heap.size (by omega)).trans HL.out
  have m0 := blk_cell hL4 0 rfl
  have m1 := blk_cell hL4 1 rfl
  have m2 := blk_cell hL4 2 rfl
  have HA := hide owna.block
  clear l0 l1 l2 hL4 hV hV2
  go_wp2_with fail
  refine (cenc_any ce cn _ cl _ len4.is hfc (by omega)).mono ?_
  rintro E w5 ⟨vf, rfl, ownf, bel5⟩
  have sz5 := bel5.size
  have bel25 : Below w2.heap.size w2 w5 := (bel2V.trans (bel4.mono (by omega))).trans (bel5.mono (by omega))
  have belV5 : Below V.heap.size V w5 := bel4.trans (bel5.mono (by omega))
  have hc5 := hc2.below bel25
  have hB5 := (bel25.block w.heap.size (by omega)).trans HB.out
  have q0 := blk_cell hB5 0 rfl
  have q1 := blk_cell hB5 1 rfl
  have q2 := blk_cell hB5 2 rfl
  have owna5 := owna.below bel5
  clear m0 m1 m2 hB5 len4 owna bel4 bel5
  go_wp2_with fail
  refine (cencR_any ce cn _ cl _ hc5 hfc (by omega)).mono ?_
  rintro E w6 ⟨vb, rfl, ownb, bel6⟩
  have sz6 := bel6.size
  have belV6 : Below V.heap.size V w6 := belV5.trans (bel6.mono (by omega))
  have len6 := lenV.below belV6
  have hL6 := (belV6.block w3.heap.size (by omega)).trans HL.out
  have m0 := blk_cell hL6 0 rfl
  have m1 := blk_cell hL6 1 rfl
  have m2 := blk_cell hL6 2 rfl
  have owna6 := owna5.below bel6
  have ownf6 := ownf.below bel6
  clear q0 q1 q2 hc5 hL6 owna5 ownf
  go_wp2_with fail
  refine (ccopy_any ce cn _ cl _ len6.is hlc).mono ?_
  rintro E w7 ⟨vx, rfl, ownx, bel7⟩
  unfold cmv
  have sz7 := bel7.size
  obtain ⟨ax, kx, hvx, _, _⟩ := ownx.is.shape
  subst hvx
  obtain ⟨Y, hY, hY2, szY, belY, bX, x0, x1, x2⟩ := new_step w7 24 (.int .i64 0) (.int .i64 0) (.slice none 0 0) (.int .i64 ce) (.int .i64 cn) (.slice ax cl.length kx)
  have bel6Y : Below w6.heap.size w6 Y := bel7.trans (belY.mono (by omega))
  have belVY : Below V.heap.size V Y := belV6.trans (bel6Y.mono (by omega))
  have bel2Y : Below w2.heap.size w2 Y := bel2V.trans (belVY.mono (by omega))
  have bel0Y := bel02.trans (bel2Y.mono (by omega))
  have F0 : C12 Y w.heap.size (w.heap.size + 1) w3.heap.size w7.heap.size (.int .i64 ce) (.int .i64 cn) (.slice ac cl.length kc) (.int .i64 de) (.int .i64 dn) (.slice ad dl.length kd) (.slice a3 cl.length k3) (.slice ax cl.length kx) :=
    ⟨C3.of ((bel2Y.block w.heap.size (by omega)).trans HB.out), C3.of ((bel2Y.block (w.heap.size + 1) (by omega)).trans HD.out), C3.of ((belVY.block w3.heap.size (by omega)).trans HL.out), C3.of bX⟩
  have owX := hide bX
  have cY := hc2.below bel2Y
  have dY := hd2.below bel2Y
  have lenY := lenV.below belVY
  have ownxY := ownx.below belY
  have ownaY := owna6.below bel6Y
  have ownfY := ownf6.below bel6Y
  have ownbY := ownb.below bel6Y
  have HF := hide ownf6.block
  clear m0 m1 m2 x0 x1 x2 bX bel7 belY bel6Y belV6 belV5 bel25 bel2V len6 lenV ownx owna6 ownf6 ownb bel6 hc2 hd2 HB HD bel02
  obtain ⟨ch, hch⟩ : ∃ c, Cm.chk ce cn cl = c := ⟨_, rfl⟩
  obtain ⟨sm, hsm⟩ : ∃ c, sameC ce cn cl de dn dl = c := ⟨_, rfl⟩
  rw [hch]
  have A1 : Hid (∀ w', Below Y.heap.size Y w' → Calls Try.prog 10 #[.agg #[.int .i64 ce, .int .i64 cn, .slice a3 cl.length k3]] w' fun E w'' => E = .returned (.int .i64 ch) ∧ Below w'.heap.size w' w'') := hide (fun w' hb => by
    have := ccheck_any ce cn (.slice a3 cl.length k3) cl w' (lenY.is.below hb) hfc (by omega)
    rw [hch] at this
    exact this)
  have A2 : Hid (∀ w', Below Y.heap.size Y w' → Calls Try.prog 18 #[.agg #[.int .i64 ce, .int .i64 cn, .slice ac cl.length kc]] w' fun E w'' => E = .returned (.int .i64 ch) ∧ Below w'.heap.size w' w'') := hide (fun w' hb => by
    have := ccheckR_any ce cn (.slice ac cl.length kc) cl w' (cY.below hb) hfc (by omega)
    rw [hch] at this
    exact this)
  have A3 : Hid (∀ w', Below Y.heap.size Y w' → Calls Try.prog 19 #[va, vb] w' fun E w'' => E = .returned (.bool true) ∧ Below w'.heap.size w' w'') := hide (fun w' hb => same_yes _ _ _ _ _ (ownaY.below hb).is (ownbY.below hb).is (by omega) rfl)
  have A4 : Hid (∀ w', Below Y.heap.size Y w' → Calls Try.prog 20 #[.agg #[.int .i64 ce, .int .i64 cn, .slice a3 cl.length k3], .agg #[.int .i64 de, .int .i64 dn, .slice ad dl.length kd]] w' fun E w'' => E = .returned (.bool sm) ∧ Below w'.heap.size w' w'') := hide (fun w' hb => by
    have := csame_any ce cn (.slice a3 cl.length k3) cl de dn (.slice ad dl.length kd) dl w' (lenY.is.below hb) (dY.below hb) (by omega) (by omega)
    rw [hsm] at this
    exact this)
  have A5 : Hid (∀ w', Below Y.heap.size Y w' → Calls Try.prog 21 #[.agg #[.int .i64 ce, .int .i64 cn, .slice ac cl.length kc], .agg #[.int .i64 de, .int .i64 dn, .slice ad dl.length kd]] w' fun E w'' => E = .returned (.bool sm) ∧ Below w'.heap.size w' w'') := hide (fun w' hb => by
    have := csameR_any ce cn (.slice ac cl.length kc) cl de dn (.slice ad dl.length kd) dl w' (cY.below hb) (dY.below hb) (by omega) (by omega)
    rw [hsm] at this
    exact this)
  have A6 : Hid (∀ w', Below Y.heap.size Y w' → Calls Try.prog 20 #[.agg #[.int .i64 ce, .int .i64 cn, .slice ac cl.length kc], .agg #[.int .i64 ce, .int .i64 cn, .slice a3 cl.length k3]] w' fun E w'' => E = .returned (.bool true) ∧ Below w'.heap.size w' w'') := hide (fun w' hb => by
    have := csame_any ce cn (.slice ac cl.length kc) cl ce cn (.slice a3 cl.length k3) cl w' (cY.below hb) (lenY.is.below hb) (by omega) (by omega)
    rw [sameC_self] at this
    exact this)
  have A7 : Hid (∀ w', Below Y.heap.size Y w' → Calls Try.prog 22 #[.agg #[.int .i64 ce, .int .i64 cn, .slice ax cl.length kx], .agg #[.int .i64 ce, .int .i64 cn, .slice ac cl.length kc]] w' fun E w'' => E = .returned (.bool true) ∧ Below w'.heap.size w' w'') := hide (fun w' hb => by
    have := csameK_any ce cn (.slice ax cl.length kx) cl ce cn (.slice ac cl.length kc) cl w' (ownxY.is.below hb) (cY.below hb) (by omega) (by omega)
    rw [sameC_self] at this
    exact this)
  have A8 : Hid (∀ w', Below Y.heap.size Y w' → Calls Try.prog 23 #[.agg #[.int .i64 ce, .int .i64 cn, .slice a3 cl.length k3], .agg #[.int .i64 ce, .int .i64 cn, .slice ac cl.length kc]] w' fun E w'' => E = .returned (.bool true) ∧ Below w'.heap.size w' w'') := hide (fun w' hb => keptC_yes ce cn (.slice a3 cl.length k3) (.slice ac cl.length kc) cl w2.heap.size w' (lenY.below hb) (cY.below hb) hlc)
  have hb1 : w.heap.size < Y.heap.size := by omega
  have hb2 : w.heap.size + 1 < Y.heap.size := by omega
  have hb3 : w3.heap.size < Y.heap.size := by omega
  have hb4 : w7.heap.size < Y.heap.size := by omega
  have HFC := hide hfc
  have hchb : (ch != ch) = false := by simp
  clear hch hsm cY dY hfc hfd hlc hld hc hd ownbY
  go_wp2_with fail
  go_region_held3 (fun w' => (w'.cell? ⟨w.heap.size, 0, none⟩ = some (.int .i64 ce) ∧ w'.cell? ⟨w.heap.size, 1, none⟩ = some (.int .i64 cn) ∧ w'.cell? ⟨w.heap.size, 2, none⟩ = some (.slice ac cl.length kc)) ∧ (w'.cell? ⟨w.heap.size + 1, 0, none⟩ = some (.int .i64 de) ∧ w'.cell? ⟨w.heap.size + 1, 1, none⟩ = some (.int .i64 dn) ∧ w'.cell? ⟨w.heap.size + 1, 2, none⟩ = some (.slice ad dl.length kd)) ∧ (w'.cell? ⟨w3.heap.size, 0, none⟩ = some (.int .i64 ce) ∧ w'.cell? ⟨w3.heap.size, 1, none⟩ = some (.int .i64 cn) ∧ w'.cell? ⟨w3.heap.size, 2, none⟩ = some (.slice a3 cl.length k3)) ∧ (w'.cell? ⟨w7.heap.size, 0, none⟩ = some (.int .i64 ce) ∧ w'.cell? ⟨w7.heap.size, 1, none⟩ = some (.int .i64 cn) ∧ w'.cell? ⟨w7.heap.size, 2, none⟩ = some (.slice ax cl.length kx))) (first | exact F0 | exact Fa | exact Fb | exact Fc | exact Fd | exact Fe | exact Ff | exact Fg | exact Fh | exact Fi | go_keep)
    (first
    | (go_at_call 13; refine (lives_any _).mono ?_; rintro E wa ⟨rfl, bela'⟩; have bela : Below Y.heap.size Y wa := ((Below.refl _ _).drew).trans bela'; have Fa := F0.below bela hb1 hb2 hb3 hb4; clear bela')
    | (go_at_call 10; refine (A1.out _ bela).mono ?_; rintro E wb ⟨rfl, belb'⟩; have belb : Below Y.heap.size Y wb := bela.trans (belb'.mono bela.size); have Fb := F0.below belb hb1 hb2 hb3 hb4; clear belb')
    | (go_at_call 18; refine (A2.out _ belb).mono ?_; rintro E wc ⟨rfl, belc'⟩; have belc : Below Y.heap.size Y wc := belb.trans (belc'.mono belb.size); have Fc := F0.below belc hb1 hb2 hb3 hb4; clear belc')
    | (go_at_call 19; refine (A3.out _ belc).mono ?_; rintro E wd ⟨rfl, beld'⟩; have beld : Below Y.heap.size Y wd := belc.trans (beld'.mono belc.size); have Fd := F0.below beld hb1 hb2 hb3 hb4; clear beld')
    | (go_at_call 20; have hp := belf; refine (A6.out _ belf).mono ?_; rintro E wg ⟨rfl, belg'⟩; have belg : Below Y.heap.size Y wg := belf.trans (belg'.mono belf.size); have Fg := F0.below belg hb1 hb2 hb3 hb4; clear belg' hp)
    | (go_at_call 20; refine (A4.out _ beld).mono ?_; rintro E we ⟨rfl, bele'⟩; have bele : Below Y.heap.size Y we := beld.trans (bele'.mono beld.size); have Fe := F0.below bele hb1 hb2 hb3 hb4; clear bele')
    | (go_at_call 21; refine (A5.out _ bele).mono ?_; rintro E wf ⟨rfl, belf'⟩; have belf : Below Y.heap.size Y wf := bele.trans (belf'.mono bele.size); have Ff := F0.below belf hb1 hb2 hb3 hb4; clear belf')
    | (go_at_call 22; refine (A7.out _ belg).mono ?_; rintro E wh ⟨rfl, belh'⟩; have belh : Below Y.heap.size Y wh := belg.trans (belh'.mono belg.size); have Fh := F0.below belh hb1 hb2 hb3 hb4; clear belh')
    | (go_at_call 23; refine (A8.out _ belh).mono ?_; rintro E wi ⟨rfl, beli'⟩; have beli : Below Y.heap.size Y wi := belh.trans (beli'.mono belh.size); have Fi := F0.below beli hb1 hb2 hb3 hb4; clear beli'))
  have szi := beli.size
  have ownai := ownaY.below beli
  have ownfi := ownfY.below beli
  have owLi := lenY.own.below beli
  have owXi := ownxY.below beli
  have bel0i := bel0Y.trans (beli.mono (by omega))
  have bX9 := (beli.block w7.heap.size (by omega)).trans owX.out
  have bL9 := ((belVY.trans (beli.mono (by omega))).block w3.heap.size (by omega)).trans HL.out
  clear A1 A2 A3 A4 A5 A6 A7 A8 Fa Fb Fc Fd Fe Ff Fg Fh Fi F0 bela belb belc beld bele belf belg belh
  obtain ⟨aa, na, ca, hva⟩ := ownai.is.form
  obtain ⟨af, nf, cf, hvf⟩ := ownfi.is.form
  have L := lists_two (s2 := w4.heap.size) ownai ownfi (fun x hx => (HA.out x hx).2) (by omega) (by omega) (by omega)
  subst hva hvf
  obtain ⟨T, hT, szT, belT, _⟩ := blk_step wi #[.slice aa na ca, .slice af nf cf] 28
  rw [hT] at L
  have bXT := (belT.block w7.heap.size (by omega)).trans bX9
  have bLT := (belT.block w3.heap.size (by omega)).trans bL9
  have owLT := owLi.below belT
  have owXT := owXi.below belT
  have bel0T := bel0i.trans (belT.mono (by omega))
  have LL := hide L
  clear L bX9 bL9 owLi owXi belT bel0i ownai ownfi ownaY ownfY beli lenY ownxY
  go_wp2_with fail
  refine (apart_keeps 2 _ 2 V.heap.size _ _ _ (by omega) (by omega) (by omega) LL.out (by omega)).mono ?_
  rintro E wj ⟨rfl, belj, hkp⟩
  have kpT := keepT_of_lists LL.out hkp
  have szj := belj.size
  have bXj := kpT _ _ _ _ bXT (by decide)
  have bLj := kpT _ _ _ _ bLT (by decide)
  have owLj := owLT.keepT kpT (by decide)
  have owXj := owXT.keepT kpT (by decide)
  have bel0j := bel0T.trans (belj.mono (by omega))
  have x2 := blk_cell bXj 2 rfl
  have l2 := blk_cell bLj 2 rfl
  have LO := hide (listsO_pair (s1 := w6.heap.size) owXj owLj (fun b hb => by have := (HLB.out b hb).2; omega) (by omega) (by omega) (by omega) HFC.out HFC.out)
  clear LL kpT bXT bLT bXj bLj owLT owXT owLj owXj hkp belj bel0T
  go_wp2_with fail
  refine (apartO_yes 2 _ 2 w2.heap.size _ _ _ (by omega) (by omega) (by simp; omega) LO.out (by omega)).mono ?_
  rintro E wk ⟨rfl, belk⟩
  have bel0k : Below w.heap.size w wk := (bel0j.alloc (by omega) _).trans (belk.mono (by omega))
  clear LO belk bel0j
  go_wp2
  go_ret
  exact ⟨rfl, bel0k⟩

end Go.Proofs.Ytlfgffldoiedlaa
