/- The walk of RoleWays. -/
import Derived.Test.YthndeolibilnnaaDoorRoe
import Derived.Test.YthndeolibilnnaaDoorRof
import Derived.Test.YthndeolibilnnaaDoorWro
namespace Go.Proofs.YthndeolibilnnaaDoor
open Go.RowKit
set_option linter.unusedVariables false

theorem first_two (n : Int) : fse (pk n 2) = 0 ∧ Pm.Ok (fst (pk n 2)) := by
  have h1 := Int.tmod_lt_of_pos n (show (0 : Int) < 2 by omega)
  have h2 := Int.lt_tmod_of_pos n (show (0 : Int) < 2 by omega)
  have : pk n 2 = 0 ∨ pk n 2 = 1 := by unfold pk; split <;> omega
  rcases this with h | h
  · rw [h]; exact ⟨rfl, ok_prim (by omega) (by omega) (by omega) (by omega)⟩
  · rw [h]; exact ⟨rfl, ok_repl (by omega) (by omega)⟩

set_option maxRecDepth 20000 in
set_option maxHeartbeats 16000000 in
theorem roleWays_walk (n : Int) (v : Value) (r : List Stp) (w : World) (hn : (Lit.int .i64 n).wf = true) (h : RowT w v r) (hl : r.length * 24 ≤ 140737488351232) (hm : Mst w) :
    Calls Tryd.prog 5 #[.int .i64 n, v] w fun e w' => e = .returned (.bool true) ∧ Below w.heap.size w w' := by
  obtain ⟨ao, cap, hv, hcap, hcm⟩ := h.1.shape
  have HM := hide hm
  have STP : Hid (∀ (i : Nat), i < r.length → ∃ b off s, ao = some ⟨b, off, none⟩ ∧ FitT s ∧ ∀ W, Below w.heap.size w W → (W.cell? ⟨b, off + i * 3, none⟩ = some (.int .i64 s.k) ∧ W.cell? ⟨b, off + i * 3 + 1, none⟩ = some (.int .i64 s.n) ∧ W.cell? ⟨b, off + i * 3 + 2, none⟩ = some (.int .i64 s.m))) := hide fun i hi => by
    obtain ⟨b, off, cap', hv', _, _, hb, hcell⟩ := RowG.full stpc_len (by decide) h.1 (by omega)
    rw [hv] at hv'
    simp only [Value.slice.injEq, true_and] at hv'
    obtain ⟨s, hs⟩ : ∃ s, r[i]? = some s := ⟨r[i], List.getElem?_eq_getElem hi⟩
    refine ⟨b, off, s, hv'.1, h.2 s (List.mem_of_getElem? hs), fun W hW => ⟨(hW.cell (p := ⟨b, off + i * 3, none⟩) hb).trans ?_, (hW.cell (p := ⟨b, off + i * 3 + 1, none⟩) hb).trans ?_, (hW.cell (p := ⟨b, off + i * 3 + 2, none⟩) hb).trans ?_⟩⟩
    · exact hcell i s hs 0 _ rfl
    · exact hcell i s hs 1 _ rfl
    · exact hcell i s hs 2 _ rfl
  obtain ⟨hf0, hok⟩ := first_two n
  obtain ⟨x0, hx0⟩ : ∃ x, fst (pk n 2) = x := ⟨_, rfl⟩
  have FI : Hid (∀ W, Calls Tryd.prog 28 #[.int .i64 (pk n 2)] W fun E w' => E = .returned (.tuple #[.agg #[.int .i64 x0.e, .int .u8 x0.r, .int .i64 x0.a, .int .u8 x0.p, .int .i64 x0.f, .int .i64 x0.b], .int .i64 0]) ∧ Below W.heap.size W w') := hide fun W => by
    have := first_any (pk n 2) W
    rw [hf0, hx0] at this
    exact this
  rw [hx0] at hok
  have PK := hide (fun W => pickx_any n 2 W (by omega) (by omega) (i64_of hn))
  generalize pk n 2 = d at *
  subst hv
  clear h hm hf0 hx0 hn
  go_enter Tryd.func5, Tryd.ntmps5
  go_wp2_with fail
  refine (lives20_any _ HM.out).mono ?_
  rintro E w1 ⟨rfl, b1⟩
  have B1 := hide b1
  clear b1
  by_cases h200 : (200 : Int) < r.length
  · clear STP FI PK hok
    go_wp2
    go_ret
    exact ⟨rfl, B1.out⟩
  go_wp2_with fail
  refine (PK.out _).mono ?_
  rintro E w2 ⟨rfl, hw2⟩
  obtain rfl := hw2
  go_wp2_with fail
  refine (FI.out _).mono ?_
  rintro E w3 ⟨rfl, b3⟩
  obtain ⟨w4, hw4, sz4, b4, hq4, _, _⟩ := newp w3 x0
  have B4 := hide (B1.out.trans ((b3.trans (b4.mono b3.size)).mono B1.out.size))
  have P4 : Hid (PgAt w4 w3.heap.size x0) := hide hq4
  have HG : Hid (w.heap.size ≤ w3.heap.size) := hide (by have := B1.out.size; have := b3.size; omega)
  have HOK0 := hide hok
  clear b3 b4 hq4 hok PK FI
  go_wp2
  obtain ⟨gb, hgb⟩ : ∃ g, w3.heap.size = g := ⟨_, rfl⟩
  rw [hgb] at P4 HG ⊢
  clear hgb hw4 sz4
  go_loopw [7] (fun iv wr => ∃ (i : Nat) (x : Pm.Pg), iv = .int .i64 (i : Int) ∧ i ≤ r.length ∧ Hid (PgAt wr gb x ∧ Pm.Ok x ∧ Below w.heap.size w wr)) (fun iv _ => r.length - (intOf iv).toNat)
  case atStart => exact ⟨0, x0, rfl, by omega, hide ⟨P4.out, HOK0.out, B4.out⟩⟩
  case round =>
    obtain ⟨i, x, rfl, hi, HS⟩ := hrel
    by_cases hlt : i < r.length
    · have hlt' : (i : Int) < r.length := by omega
      have hi0 : (0 : Int) ≤ (i : Int) := by omega
      obtain ⟨W0, hW0⟩ : ∃ W, wr.drew = W := ⟨_, rfl⟩
      have bW0 : Below wr.heap.size wr W0 := by rw [← hW0]; exact (Below.refl _ _).drew
      have HB := hide (HS.out.2.2.trans (bW0.mono HS.out.2.2.size))
      have PX := hide (HS.out.1.below bW0)
      have HOK := hide HS.out.2.1
      obtain ⟨b, off, s, rfl, hfs, hcs⟩ := STP.out i hlt
      have SX : Hid (∀ W, Below W0.heap.size W0 W → (W.cell? ⟨gb, 0, none⟩ = some (.int .i64 x.e) ∧ W.cell? ⟨gb, 1, none⟩ = some (.int .u8 x.r) ∧ W.cell? ⟨gb, 2, none⟩ = some (.int .i64 x.a) ∧ W.cell? ⟨gb, 3, none⟩ = some (.int .u8 x.p) ∧ W.cell? ⟨gb, 4, none⟩ = some (.int .i64 x.f) ∧ W.cell? ⟨gb, 5, none⟩ = some (.int .i64 x.b)) ∧ (W.cell? ⟨b, off + i * 3, none⟩ = some (.int .i64 s.k) ∧ W.cell? ⟨b, off + i * 3 + 1, none⟩ = some (.int .i64 s.n) ∧ W.cell? ⟨b, off + i * 3 + 2, none⟩ = some (.int .i64 s.m))) := hide fun W hW => by
        exact ⟨cells1 (PX.out.below hW), hcs W (HB.out.trans (hW.mono HB.out.size))⟩
      have NX : Hid (∀ W, Below W0.heap.size W0 W → Calls Tryd.prog 30 #[.agg #[.int .i64 x.e, .int .u8 x.r, .int .i64 x.a, .int .u8 x.p, .int .i64 x.f, .int .i64 x.b], .agg #[.int .i64 s.k, .int .i64 s.n, .int .i64 s.m]] W (NxR x W)) := hide fun W hW => next20_any x s W HOK.out hfs (HM.out.below (HB.out.trans (hW.mono HB.out.size)))
      have D0 := hide (Below.refl W0.heap.size W0)
      clear HS bW0 hfs hcs STP P4 B4 HOK0
      go_wp2_with fail
      refine region_any (ops := (regOf 11 Tryd.f5)) (S := fun W => (W.cell? ⟨gb, 0, none⟩ = some (.int .i64 x.e) ∧ W.cell? ⟨gb, 1, none⟩ = some (.int .u8 x.r) ∧ W.cell? ⟨gb, 2, none⟩ = some (.int .i64 x.a) ∧ W.cell? ⟨gb, 3, none⟩ = some (.int .u8 x.p) ∧ W.cell? ⟨gb, 4, none⟩ = some (.int .i64 x.f) ∧ W.cell? ⟨gb, 5, none⟩ = some (.int .i64 x.b)) ∧ (W.cell? ⟨b, off + i * 3, none⟩ = some (.int .i64 s.k) ∧ W.cell? ⟨b, off + i * 3 + 1, none⟩ = some (.int .i64 s.n) ∧ W.cell? ⟨b, off + i * 3 + 2, none⟩ = some (.int .i64 s.m))) (by kernel_rfl) wro_size ?_
      rw [wro_new, hW0]
      refine any_take (v := ?_) wro_t0_0 (by kernel_rfl) (fun _ _ _ _ _ h => h) (SX.out _ D0.out) rfl rfl (by rfl) ?_ ?_
      rotate_left 1
      · intro w hS
        (try dsimp only at hS)
        go_simp
        all_goals with_reducible rfl
      simp only [Act.put, List.setIfInBounds_toArray, List.set_cons_zero, List.set_cons_succ]
      refine any_take (v := ?_) wro_t1_1 (by kernel_rfl) (fun _ _ _ _ _ h => h) (SX.out _ D0.out) rfl rfl (by rfl) ?_ ?_
      rotate_left 1
      · intro w hS
        (try dsimp only at hS)
        go_simp
        all_goals with_reducible rfl
      simp only [Act.put, List.setIfInBounds_toArray, List.set_cons_zero, List.set_cons_succ]
      refine any_take (v := ?_) wro_t3_2 (by kernel_rfl) (fun _ _ _ _ _ h => h) (SX.out _ D0.out) rfl rfl (by rfl) ?_ ?_
      rotate_left 1
      · intro w hS
        (try dsimp only at hS)
        go_simp
        all_goals with_reducible rfl
      simp only [Act.put, List.setIfInBounds_toArray, List.set_cons_zero, List.set_cons_succ]
      refine any_take (v := ?_) wro_t7_3 (by kernel_rfl) (fun _ _ _ _ _ h => h) (SX.out _ D0.out) rfl rfl (by rfl) ?_ ?_
      rotate_left 1
      · intro w hS
        (try dsimp only at hS)
        go_simp
        all_goals with_reducible rfl
      simp only [Act.put, List.setIfInBounds_toArray, List.set_cons_zero, List.set_cons_succ]
      refine any_take (v := ?_) wro_t15_4 (by kernel_rfl) (fun _ _ _ _ _ h => h) (SX.out _ D0.out) rfl rfl (by rfl) ?_ ?_
      rotate_left 1
      · intro w hS
        (try dsimp only at hS)
        go_simp
        all_goals with_reducible rfl
      simp only [Act.put, List.setIfInBounds_toArray, List.set_cons_zero, List.set_cons_succ]
      refine any_two wro_r31 ?_ ?_
      · refine any_op rfl (by rfl) (fun K hK => ?_)
        go_simp
        refine (NX.out _ D0.out).mono ?_
        rintro E U1 ⟨y, z, rfl, NR⟩
        have D1 := hide (D0.out.trans (NR.out.2.2.mono D0.out.size))
        have WY := hide (And.intro NR.out.1 NR.out.2.1)
        clear NR
        unfold vp
        go_wp2_with fail
        refine hK.out _ _ (SX.out _ D1.out) ?_
        clear hK K
        try simp only [Act.put, List.setIfInBounds_toArray, List.set_cons_zero, List.set_cons_succ]
        refine any_take (v := ?_) wro_t63_6 (by kernel_rfl) (fun _ _ _ _ _ h => h) (SX.out _ D1.out) rfl rfl (by rfl) ?_ ?_
        rotate_left 1
        · intro w hS
          (try dsimp only at hS)
          go_simp
          all_goals with_reducible rfl
        simp only [Act.put, List.setIfInBounds_toArray, List.set_cons_zero, List.set_cons_succ]
        refine any_take (v := ?_) wro_t127_7 (by kernel_rfl) (fun _ _ _ _ _ h => h) (SX.out _ D1.out) rfl rfl (by rfl) ?_ ?_
        rotate_left 1
        · intro w hS
          (try dsimp only at hS)
          go_simp
          all_goals with_reducible rfl
        simp only [Act.put, List.setIfInBounds_toArray, List.set_cons_zero, List.set_cons_succ]
        refine any_take (v := ?_) wro_t255_8 (by kernel_rfl) (fun _ _ _ _ _ h => h) (SX.out _ D1.out) rfl rfl (by rfl) ?_ ?_
        rotate_left 1
        · intro w hS
          (try dsimp only at hS)
          go_simp
          all_goals with_reducible rfl
        simp only [Act.put, List.setIfInBounds_toArray, List.set_cons_zero, List.set_cons_succ]
        refine any_one wro_r511 ?_
        obtain ⟨U2, hU2, sU2, bU2, qU2⟩ := blk_step U1 #[.int .i64 0, .int .u8 0, .int .i64 0, .int .u8 0, .int .i64 0, .int .i64 0] 25
        have D2 := hide (D1.out.trans (bU2.mono D1.out.size))
        have Q2 := hide qU2
        have GE := hide (And.intro D1.out.size (blk_lt qU2))
        clear bU2 qU2
        refine any_op rfl (by rfl) (fun K hK => ?_)
        go_simp
        go_wp2_with fail
        refine hK.out _ _ (SX.out _ D2.out) ?_
        clear hK K
        try simp only [Act.put, List.setIfInBounds_toArray, List.set_cons_zero, List.set_cons_succ]
        refine any_one wro_r1023 ?_
        obtain ⟨Z, hZ, pZ, gZ, ⟨a0, a1, a2, a3, a4, a5⟩, fr, ⟨z0, z1, z2, z3, z4, z5⟩⟩ := put6 Q2.out (.int .i64 y.e) (.int .u8 y.r) (.int .i64 y.a) (.int .u8 y.p) (.int .i64 y.f) (.int .i64 y.b)
        have f0 := fr 0; have f1 := fr 1; have f2 := fr 2; have f3 := fr 3; have f4 := fr 4; have f5 := fr 5
        have DZ := hide (below_put D2.out gZ GE.out.1 D2.out.size)
        have QZ : Hid (PgAt Z U1.heap.size y) := hide pZ
        clear gZ pZ fr
        refine any_op rfl (by rfl) (fun K hK => ?_)
        go_simp
        go_wp2_with fail
        refine hK.out _ _ (SX.out _ DZ.out) ?_
        clear hK K
        try simp only [Act.put, List.setIfInBounds_toArray, List.set_cons_zero, List.set_cons_succ]
        refine any_take (v := ?_) wro_t2047_11 (by kernel_rfl) (fun _ _ _ _ _ h => h) (SX.out _ DZ.out) rfl rfl (by rfl) ?_ ?_
        rotate_left 1
        · intro w hS
          (try dsimp only at hS)
          go_simp
          all_goals with_reducible rfl
        simp only [Act.put, List.setIfInBounds_toArray, List.set_cons_zero, List.set_cons_succ]
        refine any_done wro_end ?_
        have PZ := hide (PX.out.below DZ.out)
        have BZ := hide (HB.out.trans (DZ.out.mono HB.out.size))
        have hgq : gb ≠ U1.heap.size := by have := PX.out.lt; have := GE.out.1; omega
        have hsz : gb < Z.heap.size := PZ.out.lt
        clear SX NX a0 a1 a2 a3 a4 a5 f0 f1 f2 f3 f4 f5 z0 z1 z2 z3 z4 z5 hZ
        by_cases hz : z = 0
        · obtain ⟨hok, hle, hway⟩ := WY.out.2 hz
          have hb : (z != 0) = false := by simp [hz]
          have CH : Hid (Calls Tryd.prog 31 #[.agg #[.int .i64 y.e, .int .u8 y.r, .int .i64 y.a, .int .u8 y.p, .int .i64 y.f, .int .i64 y.b]] Z fun E w' => E = .returned (.int .i64 0) ∧ Below Z.heap.size Z w') := hide (by
            have := pgcheck_any y Z (fit_ok hok) (HM.out.below BZ.out)
            rw [chk_is hok] at this
            exact this)
          have WA := hide (fun W => way_any x y W HOK.out hok hway)
          have HOY := hide hok
          obtain ⟨c0, c1, c2, c3, c4, c5⟩ := QZ.out.six
          clear hz WY hok hway
          go_wp2_with fail
          refine CH.out.mono ?_
          rintro E u1 ⟨rfl, k1⟩
          replace QZ := hide (QZ.out.below k1)
          replace PZ := hide (PZ.out.below k1)
          replace BZ := hide (BZ.out.trans (k1.mono BZ.out.size))
          clear CH c0 c1 c2 c3 c4 c5 k1
          obtain ⟨c0, c1, c2, c3, c4, c5⟩ := QZ.out.six
          obtain ⟨d0, d1, d2, d3, d4, d5⟩ := PZ.out.six
          have hle' : ¬ y.e < x.e := by omega
          go_wp2_with fail
          refine (WA.out _).mono ?_
          rintro E u2 ⟨rfl, k2⟩
          replace QZ := hide (QZ.out.below k2)
          replace PZ := hide (PZ.out.below k2)
          replace BZ := hide (BZ.out.trans (k2.mono BZ.out.size))
          clear WA c0 c1 c2 c3 c4 c5 d0 d1 d2 d3 d4 d5 k2
          obtain ⟨c0, c1, c2, c3, c4, c5⟩ := QZ.out.six
          obtain ⟨V, hV, pV, kpV, blV, ⟨d0, d1, d2, d3, d4, d5⟩, fr, sV⟩ := PZ.out.put y
          have f0 := fr 0; have f1 := fr 1; have f2 := fr 2; have f3 := fr 3; have f4 := fr 4; have f5 := fr 5
          have FIN : Hid (PgAt V gb y ∧ Pm.Ok y ∧ Below w.heap.size w V) := hide ⟨pV, HOY.out, blV _ _ BZ.out HG.out BZ.out.size⟩
          clear pV kpV blV fr PZ QZ BZ
          go_wp2
          go_roundw
          case rel => exact ⟨i + 1, y, by go_num, by omega, FIN⟩
          case measure => simp [intOf]; omega
        · have hno := WY.out.1 hz
          have hb : (z != 0) = true := by simpa using hz
          have SP : Hid (∀ W, Calls Tryd.prog 12 #[.agg #[.int .i64 y.e, .int .u8 y.r, .int .i64 y.a, .int .u8 y.p, .int .i64 y.f, .int .i64 y.b], .agg #[.int .i64 0, .int .u8 0, .int .i64 0, .int .u8 0, .int .i64 0, .int .i64 0]] W fun E w' => E = .returned (.bool true) ∧ Below W.heap.size W w') := hide fun W => by
            have := samePage_any y Pm.no W
            rw [same_iff.2 hno] at this
            exact this
          obtain ⟨c0, c1, c2, c3, c4, c5⟩ := QZ.out.six
          clear hz WY hno
          go_wp2_with fail
          refine (SP.out _).mono ?_
          rintro E u1 ⟨rfl, k1⟩
          have FIN : Hid (PgAt u1 gb x ∧ Pm.Ok x ∧ Below w.heap.size w u1) := hide ⟨PZ.out.below k1, HOK.out, BZ.out.trans (k1.mono BZ.out.size)⟩
          clear SP c0 c1 c2 c3 c4 c5 k1 PZ QZ BZ
          go_wp2
          go_roundw
          case rel => exact ⟨i + 1, x, by go_num, by omega, FIN⟩
          case measure => simp [intOf]; omega
      · obtain ⟨U4, hU4, sU4, bU4, qU4⟩ := blk_step W0 #[.int .i64 0, .int .u8 0, .int .i64 0, .int .u8 0, .int .i64 0, .int .i64 0] 25
        have D4 := hide (D0.out.trans (bU4.mono D0.out.size))
        have Q4 := hide qU4
        have GE := hide (And.intro D0.out.size (blk_lt qU4))
        clear bU4 qU4
        refine any_op rfl (by rfl) (fun K hK => ?_)
        go_simp
        go_wp2_with fail
        refine hK.out _ _ (SX.out _ D4.out) ?_
        clear hK K
        try simp only [Act.put, List.setIfInBounds_toArray, List.set_cons_zero, List.set_cons_succ]
        refine any_one wro_r543 ?_
        refine any_op rfl (by rfl) (fun K hK => ?_)
        go_simp
        refine (NX.out _ D4.out).mono ?_
        rintro E U5 ⟨y, z, rfl, NR⟩
        have D5 := hide (D4.out.trans (NR.out.2.2.mono D4.out.size))
        have Q5 := hide ((NR.out.2.2.block _ (blk_lt Q4.out)).trans Q4.out)
        have WY := hide (And.intro NR.out.1 NR.out.2.1)
        clear NR
        unfold vp
        go_wp2_with fail
        refine hK.out _ _ (SX.out _ D5.out) ?_
        clear hK K
        try simp only [Act.put, List.setIfInBounds_toArray, List.set_cons_zero, List.set_cons_succ]
        refine any_take (v := ?_) wro_t575_6 (by kernel_rfl) (fun _ _ _ _ _ h => h) (SX.out _ D5.out) rfl rfl (by rfl) ?_ ?_
        rotate_left 1
        · intro w hS
          (try dsimp only at hS)
          go_simp
          all_goals with_reducible rfl
        simp only [Act.put, List.setIfInBounds_toArray, List.set_cons_zero, List.set_cons_succ]
        refine any_take (v := ?_) wro_t639_7 (by kernel_rfl) (fun _ _ _ _ _ h => h) (SX.out _ D5.out) rfl rfl (by rfl) ?_ ?_
        rotate_left 1
        · intro w hS
          (try dsimp only at hS)
          go_simp
          all_goals with_reducible rfl
        simp only [Act.put, List.setIfInBounds_toArray, List.set_cons_zero, List.set_cons_succ]
        refine any_take (v := ?_) wro_t767_8 (by kernel_rfl) (fun _ _ _ _ _ h => h) (SX.out _ D5.out) rfl rfl (by rfl) ?_ ?_
        rotate_left 1
        · intro w hS
          (try dsimp only at hS)
          go_simp
          all_goals with_reducible rfl
        simp only [Act.put, List.setIfInBounds_toArray, List.set_cons_zero, List.set_cons_succ]
        refine any_one wro_r1023 ?_
        obtain ⟨Z, hZ, pZ, gZ, ⟨a0, a1, a2, a3, a4, a5⟩, fr, ⟨z0, z1, z2, z3, z4, z5⟩⟩ := put6 Q5.out (.int .i64 y.e) (.int .u8 y.r) (.int .i64 y.a) (.int .u8 y.p) (.int .i64 y.f) (.int .i64 y.b)
        have f0 := fr 0; have f1 := fr 1; have f2 := fr 2; have f3 := fr 3; have f4 := fr 4; have f5 := fr 5
        have DZ := hide (below_put D5.out gZ GE.out.1 D5.out.size)
        have QZ : Hid (PgAt Z W0.heap.size y) := hide pZ
        clear gZ pZ fr
        refine any_op rfl (by rfl) (fun K hK => ?_)
        go_simp
        go_wp2_with fail
        refine hK.out _ _ (SX.out _ DZ.out) ?_
        clear hK K
        try simp only [Act.put, List.setIfInBounds_toArray, List.set_cons_zero, List.set_cons_succ]
        refine any_take (v := ?_) wro_t2047_11 (by kernel_rfl) (fun _ _ _ _ _ h => h) (SX.out _ DZ.out) rfl rfl (by rfl) ?_ ?_
        rotate_left 1
        · intro w hS
          (try dsimp only at hS)
          go_simp
          all_goals with_reducible rfl
        simp only [Act.put, List.setIfInBounds_toArray, List.set_cons_zero, List.set_cons_succ]
        refine any_done wro_end ?_
        have PZ := hide (PX.out.below DZ.out)
        have BZ := hide (HB.out.trans (DZ.out.mono HB.out.size))
        have hgq : gb ≠ W0.heap.size := by have := PX.out.lt; have := GE.out.1; omega
        have hsz : gb < Z.heap.size := PZ.out.lt
        clear SX NX a0 a1 a2 a3 a4 a5 f0 f1 f2 f3 f4 f5 z0 z1 z2 z3 z4 z5 hZ
        by_cases hz : z = 0
        · obtain ⟨hok, hle, hway⟩ := WY.out.2 hz
          have hb : (z != 0) = false := by simp [hz]
          have CH : Hid (Calls Tryd.prog 31 #[.agg #[.int .i64 y.e, .int .u8 y.r, .int .i64 y.a, .int .u8 y.p, .int .i64 y.f, .int .i64 y.b]] Z fun E w' => E = .returned (.int .i64 0) ∧ Below Z.heap.size Z w') := hide (by
            have := pgcheck_any y Z (fit_ok hok) (HM.out.below BZ.out)
            rw [chk_is hok] at this
            exact this)
          have WA := hide (fun W => way_any x y W HOK.out hok hway)
          have HOY := hide hok
          obtain ⟨c0, c1, c2, c3, c4, c5⟩ := QZ.out.six
          clear hz WY hok hway
          go_wp2_with fail
          refine CH.out.mono ?_
          rintro E u1 ⟨rfl, k1⟩
          replace QZ := hide (QZ.out.below k1)
          replace PZ := hide (PZ.out.below k1)
          replace BZ := hide (BZ.out.trans (k1.mono BZ.out.size))
          clear CH c0 c1 c2 c3 c4 c5 k1
          obtain ⟨c0, c1, c2, c3, c4, c5⟩ := QZ.out.six
          obtain ⟨d0, d1, d2, d3, d4, d5⟩ := PZ.out.six
          have hle' : ¬ y.e < x.e := by omega
          go_wp2_with fail
          refine (WA.out _).mono ?_
          rintro E u2 ⟨rfl, k2⟩
          replace QZ := hide (QZ.out.below k2)
          replace PZ := hide (PZ.out.below k2)
          replace BZ := hide (BZ.out.trans (k2.mono BZ.out.size))
          clear WA c0 c1 c2 c3 c4 c5 d0 d1 d2 d3 d4 d5 k2
          obtain ⟨c0, c1, c2, c3, c4, c5⟩ := QZ.out.six
          obtain ⟨V, hV, pV, kpV, blV, ⟨d0, d1, d2, d3, d4, d5⟩, fr, sV⟩ := PZ.out.put y
          have f0 := fr 0; have f1 := fr 1; have f2 := fr 2; have f3 := fr 3; have f4 := fr 4; have f5 := fr 5
          have FIN : Hid (PgAt V gb y ∧ Pm.Ok y ∧ Below w.heap.size w V) := hide ⟨pV, HOY.out, blV _ _ BZ.out HG.out BZ.out.size⟩
          clear pV kpV blV fr PZ QZ BZ
          go_wp2
          go_roundw
          case rel => exact ⟨i + 1, y, by go_num, by omega, FIN⟩
          case measure => simp [intOf]; omega
        · have hno := WY.out.1 hz
          have hb : (z != 0) = true := by simpa using hz
          have SP : Hid (∀ W, Calls Tryd.prog 12 #[.agg #[.int .i64 y.e, .int .u8 y.r, .int .i64 y.a, .int .u8 y.p, .int .i64 y.f, .int .i64 y.b], .agg #[.int .i64 0, .int .u8 0, .int .i64 0, .int .u8 0, .int .i64 0, .int .i64 0]] W fun E w' => E = .returned (.bool true) ∧ Below W.heap.size W w') := hide fun W => by
            have := samePage_any y Pm.no W
            rw [same_iff.2 hno] at this
            exact this
          obtain ⟨c0, c1, c2, c3, c4, c5⟩ := QZ.out.six
          clear hz WY hno
          go_wp2_with fail
          refine (SP.out _).mono ?_
          rintro E u1 ⟨rfl, k1⟩
          have FIN : Hid (PgAt u1 gb x ∧ Pm.Ok x ∧ Below w.heap.size w u1) := hide ⟨PZ.out.below k1, HOK.out, BZ.out.trans (k1.mono BZ.out.size)⟩
          clear SP c0 c1 c2 c3 c4 c5 k1 PZ QZ BZ
          go_wp2
          go_roundw
          case rel => exact ⟨i + 1, x, by go_num, by omega, FIN⟩
          case measure => simp [intOf]; omega
    · have hlt' : ¬ (i : Int) < r.length := by omega
      have BB := hide HS.out.2.2
      clear HS STP
      go_wp2
      go_ret
      exact ⟨rfl, BB.out⟩

end Go.Proofs.YthndeolibilnnaaDoor
