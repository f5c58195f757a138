/- Texts of one layer, one behind the other. -/
import Derived.Test.YtajlhdmnincehaaGreatDoorH20
import Derived.Test.YtajlhdmnincehaaGreatDoorZRqt
import Derived.Test.YtajlhdmnincehaaGreatDoorH30
import Derived.Test.YtajlhdmnincehaaGreatDoorH3
import Derived.Test.YtajlhdmnincehaaGreatDoorH13
import Derived.Deep.CutRange
import Derived.Test.YtajlhdmnincehaaGreatDoorH32
import Derived.Test.YtajlhdmnincehaaGreatDoorM4
import Derived.Test.YtajlhdmnincehaaGreatDoorH10
import Derived.Test.YtajlhdmnincehaaGreatDoorH19
import Derived.Deep.RegionHeld3
/- The program's node (layer 23): a commit. -/
namespace Go.Proofs.YtajlhdmnincehaaGreatDoor
open Go.RowKit
set_option linter.unusedVariables false

/-- What refuses a commit ahead of the log. -/
def Ns.bar (x : Ns) (l : List Bm.Ov) : Int := if Bm.chkL l ≠ 0 then Bm.chkL l else if Rol.wrE x.s.p ≠ 0 then Rol.wrE x.s.p else Lea.ad x.s.l.length x.a x.t
/-- The commit that it is. -/
def Ns.com (x : Ns) (l : List Bm.Ov) : Cm.Cv := ⟨x.s.p.e, x.s.l.length + 1, l⟩
/-- What a commit answers; the node behind it. -/
def Ns.coE (x : Ns) (l : List Bm.Ov) : Int := if x.bar l ≠ 0 then x.bar l else (Rst.add x.s [x.com l]).1
def Ns.co (x : Ns) (l : List Bm.Ov) : Ns := if x.bar l ≠ 0 then x else ⟨x.u, x.t, x.a, x.k, x.m, (Rst.add x.s [x.com l]).2⟩

set_option maxRecDepth 20000 in
set_option maxHeartbeats 4000000 in
theorem ncommit_any (n p q : Nat) (F : Nat → Prop) (w : World) (x : Ns) (h : Nd n p q F w x) (hR : Rok x.s) (h3 : T3 x.s.d) (h0 : ¬ F 0) (v : Value) (l : List Bm.Ov) (hv : ∀ W, Out F w W → IsO W v l) (hf : FitO l) (hl : l.length * 40 ≤ 140737488351232) (he : In64 x.s.p.e) :
    Calls Tryz.prog 23 #[.pointer (some ⟨n, 0, none⟩), v] w fun E w' => E = .returned (.tuple #[.int .i64 (if x.coE l = 0 then x.s.l.length + 1 else 0), .int .i64 (x.coE l)]) ∧ NdS n p q F w w' (x.co l) := by
  have BC := hide (bcheck_any v l w (hv w (Out.refl _ _)) hf (by omega))
  obtain ⟨va, vn, vk, rfl⟩ : ∃ a n k, v = .slice a n k := by
    obtain ⟨a, k, e, _, _⟩ := (hv w (Out.refl _ _)).shape
    exact ⟨_, _, _, e⟩
  by_cases hb : Bm.chkL l ≠ 0
  · have hbar : x.bar l = Bm.chkL l := by unfold Ns.bar; rw [if_pos hb]
    have e1 : x.coE l = Bm.chkL l := by unfold Ns.coE; rw [hbar, if_pos hb]
    have e2 : x.co l = x := by unfold Ns.co; rw [hbar, if_pos hb]
    have SM : Hid (∀ W, Below w.heap.size w W → NdS n p q F w W x) := hide fun W hW => NdS.same h hW
    rw [e1, e2, if_neg hb]
    have hb' : (Bm.chkL l == 0) = false := by simpa using hb
    generalize Bm.chkL l = z at *
    clear h hR h3 h0 hv hf hl he hbar e1 e2 hb
    go_enter Tryz.func23, Tryz.ntmps23
    go_wp2_with fail
    refine BC.out.mono ?_
    rintro E w1 ⟨rfl, b1⟩
    have RR := hide (SM.out w1 b1)
    clear BC SM b1
    go_wp2
    go_ret2
    exact ⟨rfl, RR.out⟩
  have hb : Bm.chkL l = 0 := Classical.not_not.1 hb
  rw [hb] at BC
  have hlen := hR.2
  obtain ⟨en, hen⟩ : ∃ en : Int, (x.s.l.length : Int) = en := ⟨_, rfl⟩
  have hen0 : 0 ≤ en ∧ en ≤ 2000 := by omega
  obtain ⟨y, hy⟩ : ∃ y, x.s.p = y := ⟨_, rfl⟩
  have HV : vp y = .agg #[.int .i64 y.e, .int .u8 y.r, .int .i64 y.a, .int .u8 y.p, .int .i64 y.f, .int .i64 y.b] := rfl
  have PG0 : Hid (∀ W0 W, Below w.heap.size w W0 → Below W0.heap.size W0 W → Calls Tryz.prog 26 #[.pointer (some ⟨p, 0, none⟩)] W fun E w' => E = .returned (vp y) ∧ Below W.heap.size W w') := hide fun W0 W hW0 hW => by
    rw [← hy]
    exact qpage_any p q F W x.s ((h.below hW0).below hW).st hR
  have EN0 : Hid (∀ W0 W, Below w.heap.size w W0 → Below W0.heap.size W0 W → Calls Tryz.prog 35 #[.pointer (some ⟨p, 0, none⟩)] W fun E w' => E = .returned (.int .i64 en) ∧ Below W.heap.size W w') := hide fun W0 W hW0 hW => by
    rw [← hen]
    exact qend_any p q F W x.s ((h.below hW0).below hW).st hR
  have SX0 : Hid (∀ W0 W, Below w.heap.size w W0 → Below W0.heap.size W0 W → W.cell? ⟨n, 3, none⟩ = some (.pointer (some ⟨p, 0, none⟩))) := hide fun W0 W hW0 hW => ((h.below hW0).below hW).cs.c3
  have C0 : Hid (∀ W, Below w.heap.size w W → W.cell? ⟨n, 1, none⟩ = some (.int .i64 x.t) ∧ W.cell? ⟨n, 3, none⟩ = some (.pointer (some ⟨p, 0, none⟩)) ∧ W.cell? ⟨n, 4, none⟩ = some (.int .i64 x.a) ∧ Mst W) := hide fun W hW => ⟨(h.below hW).cs.c1, (h.below hW).cs.c3, (h.below hW).cs.c4, (h.below hW).st.mst⟩
  have hfy : FitP y := by rw [← hy]; exact h.st.fit
  have WR : Hid (∀ W, Mst W → Calls Tryz.prog 51 #[vp y] W fun E w' => E = .returned (.int .i64 (Rol.wrE y)) ∧ Below W.heap.size W w') := hide fun W hm => pwrites_any y W hfy hm
  have LA : Hid (∀ W, Calls Tryz.prog 52 #[.int .i64 en, .int .i64 x.a, .int .i64 x.t] W fun E w' => E = .returned (.int .i64 (Lea.ad en x.a x.t)) ∧ W = w') := hide fun W => ladmit_any en x.a x.t W
  have AD : Hid (∀ W V, Below w.heap.size w W → W.alloc (.cells #[.int .i64 y.e, .int .i64 (en + 1), .slice va vn vk] 93) = V → Calls Tryz.prog 53 #[.pointer (some ⟨p, 0, none⟩), .slice (some ⟨W.heap.size, 0, none⟩) 1 1] V fun E w' => E = .returned (.int .i64 (Rst.add x.s [x.com l]).1) ∧ NdS n p q F w w' ⟨x.u, x.t, x.a, x.k, x.m, (Rst.add x.s [x.com l]).2⟩ ∧ ∀ g, w.heap.size ≤ g → g < W.heap.size → w'.heap[g]? = W.heap[g]?) := hide fun W V hW hV => by
    obtain ⟨V', hV', szV, belV, ownV⟩ := coms_step 93 W #[.int .i64 y.e, .int .i64 (en + 1), .slice va vn vk] 1 [⟨y.e, en + 1, .slice va vn vk, l⟩] rfl rfl (by simp [maxLen])
    obtain rfl : V' = V := hV'.symm.trans hV
    have bV := hW.trans (belV.mono hW.size)
    have hz := hW.size
    have NV := h.below bV
    have hIC : ∀ W', Out F V' W' → IsC W' (.slice (some ⟨W.heap.size, 0, none⟩) 1 1) [⟨y.e, en + 1, .slice va vn vk, l⟩] := fun W' hW' => by
      have r1 : OwnR 93 W.heap.size W' (.slice (some ⟨W.heap.size, 0, none⟩) 1 1) [⟨y.e, en + 1, .slice va vn vk, l⟩] := row_agree ownV fun g hg => hW'.block g (World.ownsRow.lt ownV g hg).2 fun hF => by
        have a1 := (World.ownsRow.lt ownV g hg).1
        have a2 := h.st.lt g hF
        omega
      refine ⟨r1.row, fun c hc => ?_⟩
      rw [List.mem_singleton.1 hc]
      exact ⟨hv W' ((Out.of_below bV).trans hW' fun g e => .inl e), hy ▸ he, by simp [In64]; omega⟩
    refine (qadd_any p q F V' x.s NV.st hR ⟨h3, h0⟩ _ [⟨y.e, en + 1, .slice va vn vk, l⟩] hIC (fun c hc => by rw [List.mem_singleton.1 hc]; exact ⟨hf, by show l.length * 40 ≤ _; omega⟩) (by simp)).mono ?_
    rintro E w' ⟨rfl, k⟩
    have ecv : cvs [(⟨y.e, en + 1, .slice va vn vk, l⟩ : Cw)] = [x.com l] := by rw [← hy, ← hen]; rfl
    rw [ecv] at k ⊢
    have k' := k
    obtain ⟨F', k1, k2, k3⟩ := k'
    refine ⟨rfl, (NV.step k).ahead bV, fun g g1 g2 => ?_⟩
    rw [k2.block g (by omega) fun e => by have := h.st.lt g e; omega]
    exact belV.block g g2
  have SM : Hid (∀ W, Below w.heap.size w W → NdS n p q F w W x) := hide fun W hW => NdS.same h hW
  have hbar : x.bar l = if Rol.wrE y ≠ 0 then Rol.wrE y else Lea.ad en x.a x.t := by
    unfold Ns.bar
    rw [if_neg (by rw [hb]; simp), hy, hen]
  have HX : Hid (x.bar l = if Rol.wrE y ≠ 0 then Rol.wrE y else Lea.ad en x.a x.t) := hide hbar
  have HC : Hid (x.coE l = (if x.bar l ≠ 0 then x.bar l else (Rst.add x.s [x.com l]).1) ∧ x.co l = if x.bar l ≠ 0 then x else ⟨x.u, x.t, x.a, x.k, x.m, (Rst.add x.s [x.com l]).2⟩) := hide ⟨rfl, rfl⟩
  generalize x.coE l = ce at *
  generalize x.co l = cx at *
  rw [hen]
  rw [HV] at PG0 WR
  generalize x.bar l = br at *
  generalize Rst.add x.s [x.com l] = ad at *
  obtain ⟨ae, asx⟩ := ad
  have hwr : IntKind.i64.wrap (en + 1) = en + 1 := wrap_i64_small _ (by omega) (by omega)
  obtain ⟨xt, hxt⟩ : ∃ z, x.t = z := ⟨_, rfl⟩
  obtain ⟨xa, hxa⟩ : ∃ z, x.a = z := ⟨_, rfl⟩
  obtain ⟨aw, haw⟩ : ∃ z, Rol.wrE y = z := ⟨_, rfl⟩
  obtain ⟨al, hal⟩ : ∃ z, Lea.ad en xa xt = z := ⟨_, rfl⟩
  rw [hxt, hxa] at C0 LA HX
  rw [hal] at LA HX
  rw [haw] at WR HX
  obtain ⟨cn, hcn⟩ : ∃ z, (if ce = 0 then en + 1 else 0) = z := ⟨_, rfl⟩
  rw [hcn]
  have HN := hide hcn
  clear h hR h3 h0 hv hf hl he hb hlen hen hy hfy hbar HV hxt hxa haw hal hcn
  go_enter Tryz.func23, Tryz.ntmps23
  go_wp2_with fail
  refine BC.out.mono ?_
  rintro E w1 ⟨rfl, b1⟩
  have B1 := hide b1
  have PG : Hid (∀ W, Below w1.heap.size w1 W → Calls Tryz.prog 26 #[.pointer (some ⟨p, 0, none⟩)] W fun E w' => E = .returned (.agg #[.int .i64 y.e, .int .u8 y.r, .int .i64 y.a, .int .u8 y.p, .int .i64 y.f, .int .i64 y.b]) ∧ Below W.heap.size W w') := hide fun W hW => PG0.out w1 W B1.out hW
  have EN : Hid (∀ W, Below w1.heap.size w1 W → Calls Tryz.prog 35 #[.pointer (some ⟨p, 0, none⟩)] W fun E w' => E = .returned (.int .i64 en) ∧ Below W.heap.size W w') := hide fun W hW => EN0.out w1 W B1.out hW
  have SX : Hid (∀ W, Below w1.heap.size w1 W → W.cell? ⟨n, 3, none⟩ = some (.pointer (some ⟨p, 0, none⟩))) := hide fun W hW => SX0.out w1 W B1.out hW
  clear BC b1 PG0 EN0 SX0
  go_wp2_with fail
  go_cut [7, 8] from 18 to 29 (fun v7 v8 wx => ∃ X, v7 = .pointer (some ⟨X, 0, none⟩) ∧ v8 = .int .i64 en ∧ Hid (wx.heap[X]? = some (.cells (cp y) 60 (0, 0)) ∧ Below w1.heap.size w1 wx))
  case first =>
    obtain ⟨W0, hW0⟩ : ∃ x, w1.drew = x := ⟨_, rfl⟩
    have D0 : Hid (Below w1.heap.size w1 W0) := hide (by rw [← hW0]; exact (Below.refl _ _).drew)
    refine region_any (ops := (regOf 4 Tryz.f23)) (S := fun W => W.cell? ⟨n, 3, none⟩ = some (.pointer (some ⟨p, 0, none⟩))) (by kernel_rfl) wnc_size ?_
    rw [wnc_new, hW0]
    refine any_take (v := ?_) wnc_t0_0 (by kernel_rfl) (fun _ _ _ _ _ h => h) (SX.out _ D0.out) rfl rfl (by rfl) ?_ ?_
    rotate_left 1
    · intro w hS
      (try dsimp only at hS)
      go_simp
      all_goals with_reducible rfl
    simp only [Act.put, List.setIfInBounds_toArray, List.set_cons_zero, List.set_cons_succ]
    refine any_take (v := ?_) wnc_t1_1 (by kernel_rfl) (fun _ _ _ _ _ h => h) (SX.out _ D0.out) rfl rfl (by rfl) ?_ ?_
    rotate_left 1
    · intro w hS
      (try dsimp only at hS)
      go_simp
      all_goals with_reducible rfl
    simp only [Act.put, List.setIfInBounds_toArray, List.set_cons_zero, List.set_cons_succ]
    refine any_take (v := ?_) wnc_t3_2 (by kernel_rfl) (fun _ _ _ _ _ h => h) (SX.out _ D0.out) rfl rfl (by rfl) ?_ ?_
    rotate_left 1
    · intro w hS
      (try dsimp only at hS)
      go_simp
      all_goals with_reducible rfl
    simp only [Act.put, List.setIfInBounds_toArray, List.set_cons_zero, List.set_cons_succ]
    refine any_take (v := ?_) wnc_t7_3 (by kernel_rfl) (fun _ _ _ _ _ h => h) (SX.out _ D0.out) rfl rfl (by rfl) ?_ ?_
    rotate_left 1
    · intro w hS
      (try dsimp only at hS)
      go_simp
      all_goals with_reducible rfl
    simp only [Act.put, List.setIfInBounds_toArray, List.set_cons_zero, List.set_cons_succ]
    refine any_take (v := ?_) wnc_t15_4 (by kernel_rfl) (fun _ _ _ _ _ h => h) (SX.out _ D0.out) rfl rfl (by rfl) ?_ ?_
    rotate_left 1
    · intro w hS
      (try dsimp only at hS)
      go_simp
      all_goals with_reducible rfl
    simp only [Act.put, List.setIfInBounds_toArray, List.set_cons_zero, List.set_cons_succ]
    refine any_take (v := ?_) wnc_t31_6 (by kernel_rfl) (fun _ _ _ _ _ h => h) (SX.out _ D0.out) rfl rfl (by rfl) ?_ ?_
    rotate_left 1
    · intro w hS
      (try dsimp only at hS)
      go_simp
      all_goals with_reducible rfl
    simp only [Act.put, List.setIfInBounds_toArray, List.set_cons_zero, List.set_cons_succ]
    refine any_take (v := ?_) wnc_t95_7 (by kernel_rfl) (fun _ _ _ _ _ h => h) (SX.out _ D0.out) rfl rfl (by rfl) ?_ ?_
    rotate_left 1
    · intro w hS
      (try dsimp only at hS)
      go_simp
      all_goals with_reducible rfl
    simp only [Act.put, List.setIfInBounds_toArray, List.set_cons_zero, List.set_cons_succ]
    refine any_take (v := ?_) wnc_t223_8 (by kernel_rfl) (fun _ _ _ _ _ h => h) (SX.out _ D0.out) rfl rfl (by rfl) ?_ ?_
    rotate_left 1
    · intro w hS
      (try dsimp only at hS)
      go_simp
      all_goals with_reducible rfl
    simp only [Act.put, List.setIfInBounds_toArray, List.set_cons_zero, List.set_cons_succ]
    refine any_take (v := ?_) wnc_t479_9 (by kernel_rfl) (fun _ _ _ _ _ h => h) (SX.out _ D0.out) rfl rfl (by rfl) ?_ ?_
    rotate_left 1
    · intro w hS
      (try dsimp only at hS)
      go_simp
      all_goals with_reducible rfl
    simp only [Act.put, List.setIfInBounds_toArray, List.set_cons_zero, List.set_cons_succ]
    refine any_take (v := ?_) wnc_t991_10 (by kernel_rfl) (fun _ _ _ _ _ h => h) (SX.out _ D0.out) rfl rfl (by rfl) ?_ ?_
    rotate_left 1
    · intro w hS
      (try dsimp only at hS)
      go_simp
      all_goals with_reducible rfl
    simp only [Act.put, List.setIfInBounds_toArray, List.set_cons_zero, List.set_cons_succ]
    refine any_two wnc_r2015 ?_ ?_
    · refine any_op rfl (by rfl) (fun K hK => ?_)
      go_simp
      refine (PG.out _ D0.out).mono ?_
      rintro E U1 ⟨rfl, bU1⟩
      have D1 := hide (D0.out.trans (bU1.mono D0.out.size))
      clear bU1
      go_wp2_with fail
      refine hK.out _ _ (SX.out _ D1.out) ?_
      clear hK K
      try simp only [Act.put, List.setIfInBounds_toArray, List.set_cons_zero, List.set_cons_succ]
      refine any_two wnc_r2047 ?_ ?_
      · refine any_op rfl (by rfl) (fun K hK => ?_)
        go_simp
        refine (EN.out _ D1.out).mono ?_
        rintro E U2 ⟨rfl, bU2⟩
        have D2 := hide (D1.out.trans (bU2.mono D1.out.size))
        clear bU2
        go_wp2_with fail
        refine hK.out _ _ (SX.out _ D2.out) ?_
        clear hK K
        try simp only [Act.put, List.setIfInBounds_toArray, List.set_cons_zero, List.set_cons_succ]
        refine any_one wnc_r4095 ?_
        obtain ⟨U3, hU3, sU3, bU3, qU3⟩ := blk_step U2 #[.int .i64 0, .int .u8 0, .int .i64 0, .int .u8 0, .int .i64 0, .int .i64 0] 60
        have D3 := hide (D2.out.trans (bU3.mono D2.out.size))
        have Q3 := hide qU3
        have GX := hide (D2.out.size)
        clear bU3 qU3 sU3
        refine any_op rfl (by rfl) (fun K hK => ?_)
        go_simp
        go_wp2_with fail
        refine hK.out _ _ (SX.out _ D3.out) ?_
        clear hK K
        try simp only [Act.put, List.setIfInBounds_toArray, List.set_cons_zero, List.set_cons_succ]
        refine any_one wnc_r8191 ?_
        obtain ⟨V, hV, pV, gV, ⟨y0, y1, y2, y3, y4, y5⟩, fr, zz⟩ := put6 Q3.out (.int .i64 y.e) (.int .u8 y.r) (.int .i64 y.a) (.int .u8 y.p) (.int .i64 y.f) (.int .i64 y.b)
        have f0 := fr 0; have f1 := fr 1; have f2 := fr 2; have f3 := fr 3; have f4 := fr 4; have f5 := fr 5
        have DV := hide (below_put D3.out gV GX.out D3.out.size)
        have PV := hide pV
        clear gV pV fr zz
        refine any_op rfl (by rfl) (fun K hK => ?_)
        go_simp
        go_wp2_with fail
        refine hK.out _ _ (SX.out _ DV.out) ?_
        clear hK K
        try simp only [Act.put, List.setIfInBounds_toArray, List.set_cons_zero, List.set_cons_succ]
        refine any_take (v := ?_) wnc_t16383_14 (by kernel_rfl) (fun _ _ _ _ _ h => h) (SX.out _ DV.out) rfl rfl (by rfl) ?_ ?_
        rotate_left 1
        · intro w hS
          (try dsimp only at hS)
          go_simp
          all_goals with_reducible rfl
        simp only [Act.put, List.setIfInBounds_toArray, List.set_cons_zero, List.set_cons_succ]
        refine any_done wnc_end ?_
        go_wp2_with fail
        go_meet
        case rel => exact ⟨_, rfl, rfl, hide ⟨PV.out, DV.out⟩⟩
      · obtain ⟨U5, hU5, sU5, bU5, qU5⟩ := blk_step U1 #[.int .i64 0, .int .u8 0, .int .i64 0, .int .u8 0, .int .i64 0, .int .i64 0] 60
        have D5 := hide (D1.out.trans (bU5.mono D1.out.size))
        have Q5 := hide qU5
        have GX := hide (D1.out.size)
        clear bU5 qU5 sU5
        refine any_op rfl (by rfl) (fun K hK => ?_)
        go_simp
        go_wp2_with fail
        refine hK.out _ _ (SX.out _ D5.out) ?_
        clear hK K
        try simp only [Act.put, List.setIfInBounds_toArray, List.set_cons_zero, List.set_cons_succ]
        refine any_one wnc_r6143 ?_
        refine any_op rfl (by rfl) (fun K hK => ?_)
        go_simp
        refine (EN.out _ D5.out).mono ?_
        rintro E U6 ⟨rfl, bU6⟩
        have D6 := hide (D5.out.trans (bU6.mono D5.out.size))
        have Q6 := hide ((bU6.block _ (blk_lt Q5.out)).trans Q5.out)
        clear bU6
        go_wp2_with fail
        refine hK.out _ _ (SX.out _ D6.out) ?_
        clear hK K
        try simp only [Act.put, List.setIfInBounds_toArray, List.set_cons_zero, List.set_cons_succ]
        refine any_one wnc_r8191 ?_
        obtain ⟨V, hV, pV, gV, ⟨y0, y1, y2, y3, y4, y5⟩, fr, zz⟩ := put6 Q6.out (.int .i64 y.e) (.int .u8 y.r) (.int .i64 y.a) (.int .u8 y.p) (.int .i64 y.f) (.int .i64 y.b)
        have f0 := fr 0; have f1 := fr 1; have f2 := fr 2; have f3 := fr 3; have f4 := fr 4; have f5 := fr 5
        have DV := hide (below_put D6.out gV GX.out D6.out.size)
        have PV := hide pV
        clear gV pV fr zz
        refine any_op rfl (by rfl) (fun K hK => ?_)
        go_simp
        go_wp2_with fail
        refine hK.out _ _ (SX.out _ DV.out) ?_
        clear hK K
        try simp only [Act.put, List.setIfInBounds_toArray, List.set_cons_zero, List.set_cons_succ]
        refine any_take (v := ?_) wnc_t16383_14 (by kernel_rfl) (fun _ _ _ _ _ h => h) (SX.out _ DV.out) rfl rfl (by rfl) ?_ ?_
        rotate_left 1
        · intro w hS
          (try dsimp only at hS)
          go_simp
          all_goals with_reducible rfl
        simp only [Act.put, List.setIfInBounds_toArray, List.set_cons_zero, List.set_cons_succ]
        refine any_done wnc_end ?_
        go_wp2_with fail
        go_meet
        case rel => exact ⟨_, rfl, rfl, hide ⟨PV.out, DV.out⟩⟩
    · obtain ⟨U8, hU8, sU8, bU8, qU8⟩ := blk_step W0 #[.int .i64 0, .int .u8 0, .int .i64 0, .int .u8 0, .int .i64 0, .int .i64 0] 60
      have D8 := hide (D0.out.trans (bU8.mono D0.out.size))
      have Q8 := hide qU8
      have GX := hide (D0.out.size)
      clear bU8 qU8 sU8
      refine any_op rfl (by rfl) (fun K hK => ?_)
      go_simp
      go_wp2_with fail
      refine hK.out _ _ (SX.out _ D8.out) ?_
      clear hK K
      try simp only [Act.put, List.setIfInBounds_toArray, List.set_cons_zero, List.set_cons_succ]
      refine any_one wnc_r6111 ?_
      refine any_op rfl (by rfl) (fun K hK => ?_)
      go_simp
      refine (PG.out _ D8.out).mono ?_
      rintro E U9 ⟨rfl, bU9⟩
      have D9 := hide (D8.out.trans (bU9.mono D8.out.size))
      have Q9 := hide ((bU9.block _ (blk_lt Q8.out)).trans Q8.out)
      clear bU9
      go_wp2_with fail
      refine hK.out _ _ (SX.out _ D9.out) ?_
      clear hK K
      try simp only [Act.put, List.setIfInBounds_toArray, List.set_cons_zero, List.set_cons_succ]
      refine any_one wnc_r6143 ?_
      refine any_op rfl (by rfl) (fun K hK => ?_)
      go_simp
      refine (EN.out _ D9.out).mono ?_
      rintro E U10 ⟨rfl, bU10⟩
      have D10 := hide (D9.out.trans (bU10.mono D9.out.size))
      have Q10 := hide ((bU10.block _ (blk_lt Q9.out)).trans Q9.out)
      clear bU10
      go_wp2_with fail
      refine hK.out _ _ (SX.out _ D10.out) ?_
      clear hK K
      try simp only [Act.put, List.setIfInBounds_toArray, List.set_cons_zero, List.set_cons_succ]
      refine any_one wnc_r8191 ?_
      obtain ⟨V, hV, pV, gV, ⟨y0, y1, y2, y3, y4, y5⟩, fr, zz⟩ := put6 Q10.out (.int .i64 y.e) (.int .u8 y.r) (.int .i64 y.a) (.int .u8 y.p) (.int .i64 y.f) (.int .i64 y.b)
      have f0 := fr 0; have f1 := fr 1; have f2 := fr 2; have f3 := fr 3; have f4 := fr 4; have f5 := fr 5
      have DV := hide (below_put D10.out gV GX.out D10.out.size)
      have PV := hide pV
      clear gV pV fr zz
      refine any_op rfl (by rfl) (fun K hK => ?_)
      go_simp
      go_wp2_with fail
      refine hK.out _ _ (SX.out _ DV.out) ?_
      clear hK K
      try simp only [Act.put, List.setIfInBounds_toArray, List.set_cons_zero, List.set_cons_succ]
      refine any_take (v := ?_) wnc_t16383_14 (by kernel_rfl) (fun _ _ _ _ _ h => h) (SX.out _ DV.out) rfl rfl (by rfl) ?_ ?_
      rotate_left 1
      · intro w hS
        (try dsimp only at hS)
        go_simp
        all_goals with_reducible rfl
      simp only [Act.put, List.setIfInBounds_toArray, List.set_cons_zero, List.set_cons_succ]
      refine any_done wnc_end ?_
      go_wp2_with fail
      go_meet
      case rel => exact ⟨_, rfl, rfl, hide ⟨PV.out, DV.out⟩⟩
  case rest =>
  obtain ⟨X, rfl, rfl, HC1⟩ := hcut
  obtain ⟨P1, b1⟩ := HC1.out
  unfold cp at P1
  obtain ⟨g0, g1, g2, g3, g4, g5⟩ := six_of P1
  have b0 := B1.out.trans (b1.mono B1.out.size)
  obtain ⟨c1, c3, c4, hm⟩ := C0.out wc b0
  have W1 := hide (WR.out wc hm)
  have B0 := hide b0
  have P1 := hide P1
  clear HC1 b1 b0 hm WR PG EN SX B1
  go_wp2_with fail
  refine W1.out.mono ?_
  rintro E w2 ⟨rfl, b2⟩
  have B2 := hide (B0.out.trans (b2.mono B0.out.size))
  have P2 := hide ((b2.block X (blk_lt P1.out)).trans P1.out)
  clear W1 B0 P1 b2 c1 c3 c4 g0 g1 g2 g3 g4 g5
  by_cases hw : aw ≠ 0
  · have RR : Hid (ce = aw ∧ cx = x) := hide (by
      have e := HX.out
      rw [if_pos hw] at e
      rw [HC.out.1, HC.out.2, e, if_pos hw, if_pos hw]
      exact ⟨rfl, rfl⟩)
    have R2 := hide (SM.out w2 B2.out)
    have hw' : (aw == 0) = false := by simpa using hw
    have hce : ce ≠ 0 := by rw [RR.out.1]; exact hw
    have FI : Hid (Ending.returned (.tuple #[.int .i64 0, .int .i64 aw]) = .returned (.tuple #[.int .i64 cn, .int .i64 ce]) ∧ NdS n p q F w w2 cx) := hide ⟨by rw [← HN.out, if_neg hce, RR.out.1], by rw [RR.out.2]; exact R2.out⟩
    clear hw hce
    go_wp2
    go_ret2
    exact FI.out
  obtain rfl : aw = 0 := Classical.not_not.1 hw
  have HX : Hid (br = al) := hide (by have e := HX.out; rw [if_neg (by simp)] at e; exact e)
  obtain ⟨c1, c3, c4, hm⟩ := C0.out w2 B2.out
  clear hw hm
  go_wp2_with fail
  go_region_held3 (fun w' => w'.cell? ⟨n, 1, none⟩ = some (.int .i64 xt) ∧ w'.cell? ⟨n, 4, none⟩ = some (.int .i64 xa)) (first | exact ⟨c1, c4⟩ | go_keep)
    (first | (go_at_call 52; refine (LA.out _).mono ?_; rintro E w3 ⟨rfl, rfl⟩))
  clear LA c1 c4
  by_cases hw : al ≠ 0
  · have RR : Hid (ce = al ∧ cx = x) := hide (by
      rw [HC.out.1, HC.out.2, HX.out, if_pos hw, if_pos hw]
      exact ⟨rfl, rfl⟩)
    have R2 := hide (SM.out w2.drew B2.out.drew)
    have hw' : (al == 0) = false := by simpa using hw
    have hce : ce ≠ 0 := by rw [RR.out.1]; exact hw
    have FI : Hid (Ending.returned (.tuple #[.int .i64 0, .int .i64 al]) = .returned (.tuple #[.int .i64 cn, .int .i64 ce]) ∧ NdS n p q F w w2.drew cx) := hide ⟨by rw [← HN.out, if_neg hce, RR.out.1], by rw [RR.out.2]; exact R2.out⟩
    clear hw hce
    go_wp2
    go_ret2
    exact FI.out
  obtain rfl : al = 0 := Classical.not_not.1 hw
  have RR : Hid (ce = ae ∧ cx = ⟨x.u, x.t, x.a, x.k, x.m, asx⟩) := hide (by
    rw [HC.out.1, HC.out.2, HX.out, if_neg (by simp), if_neg (by simp)]
    exact ⟨rfl, rfl⟩)
  obtain ⟨w3, hw3⟩ : ∃ z, w2.drew = z := ⟨_, rfl⟩
  have B3 : Below w.heap.size w w3 := by rw [← hw3]; exact B2.out.drew
  have P3 : w3.heap[X]? = some (.cells #[.int .i64 y.e, .int .u8 y.r, .int .i64 y.a, .int .u8 y.p, .int .i64 y.f, .int .i64 y.b] 60 (0, 0)) := by rw [← hw3]; exact P2.out
  have c3 : w3.cell? ⟨n, 3, none⟩ = some (.pointer (some ⟨p, 0, none⟩)) := by rw [← hw3]; exact c3
  rw [hw3]
  obtain ⟨g0, g1, g2, g3, g4, g5⟩ := six_of P3
  obtain ⟨w4, hw4, hw4', s4, b4, P4, k0, k1, k2⟩ := new_step w3 93 (.int .i64 0) (.int .i64 0) (.slice none 0 0) (.int .i64 y.e) (.int .i64 (en + 1)) (.slice va vn vk)
  have B4 := B3.trans (b4.mono B3.size)
  obtain ⟨_, c3', _⟩ := C0.out w4 B4
  obtain ⟨V, hV, sV, bV, PV⟩ := blk_step w4.drew #[.int .i64 y.e, .int .i64 (en + 1), .slice va vn vk] 93
  have A5 := AD.out w4.drew V B4.drew hV
  have z3 := B3.size
  have A6 : Hid (Calls Tryz.prog 53 #[.pointer (some ⟨p, 0, none⟩), .slice (some ⟨w4.heap.size, 0, none⟩) 1 1] V fun E w' => E = .returned (.int .i64 ae) ∧ Hid (NdS n p q F w w' ⟨x.u, x.t, x.a, x.k, x.m, asx⟩) ∧ w'.heap[w3.heap.size]? = some (.cells #[.int .i64 y.e, .int .i64 (en + 1), .slice va vn vk] 93 (0, 0)) ∧ w'.cell? ⟨n, 3, none⟩ = some (.pointer (some ⟨p, 0, none⟩))) := hide (by
    refine A5.mono ?_
    rintro E w' ⟨rfl, k, kk⟩
    have := k
    obtain ⟨F', N, _⟩ := this
    exact ⟨rfl, hide k, (kk w3.heap.size (by omega) (by show _ < w4.heap.size; omega)).trans P4, N.cs.c3⟩)
  have cV : V.cell? ⟨n, 3, none⟩ = some (.pointer (some ⟨p, 0, none⟩)) := (C0.out V (B4.drew.trans (bV.mono B4.size))).2.1
  have kV : V.heap[w3.heap.size]? = some (.cells #[.int .i64 y.e, .int .i64 (en + 1), .slice va vn vk] 93 (0, 0)) := (bV.block _ (by show _ < w4.heap.size; omega)).trans P4
  have FIN : Hid (∀ W, NdS n p q F w W ⟨x.u, x.t, x.a, x.k, x.m, asx⟩ → Ending.returned (.tuple #[.int .i64 (if ae = 0 then en + 1 else 0), .int .i64 ae]) = .returned (.tuple #[.int .i64 cn, .int .i64 ce]) ∧ NdS n p q F w W cx) := hide fun W k => by rw [← HN.out, RR.out.1, RR.out.2]; exact ⟨rfl, k⟩
  clear AD A5 C0 SM HX HC RR B2 P2 P3 B3 b4 B4 P4 s4 sV bV PV z3 hw3 hw c3
  go_wp2_with fail
  go_region_held3 (fun w' => w'.cell? ⟨n, 3, none⟩ = some (.pointer (some ⟨p, 0, none⟩)) ∧ w'.cell? ⟨w3.heap.size, 0, none⟩ = some (.int .i64 y.e) ∧ w'.cell? ⟨w3.heap.size, 1, none⟩ = some (.int .i64 (en + 1)) ∧ w'.cell? ⟨w3.heap.size, 2, none⟩ = some (.slice va vn vk)) (first | exact ⟨c3', k0, k1, k2⟩ | exact ⟨cV, blk_cell kV 0 rfl, blk_cell kV 1 rfl, blk_cell kV 2 rfl⟩ | exact ⟨c6, blk_cell k6 0 rfl, blk_cell k6 1 rfl, blk_cell k6 2 rfl⟩ | go_keep)
    (first | (go_at_call 53; refine A6.out.mono ?_; rintro E w6 ⟨rfl, N6, k6, c6⟩))
  have d1 : w6.cell? ⟨w3.heap.size, 1, none⟩ = some (.int .i64 (en + 1)) := blk_cell k6 1 rfl
  have RR := hide (FIN.out w6 N6.out)
  by_cases ha : ae = 0
  · subst ha
    go_wp2
    go_ret2
    exact RR.out
  · have ha' : (ae == 0) = false := by simpa using ha
    rw [if_neg ha] at RR
    clear ha
    go_wp2
    go_ret2
    exact RR.out

end Go.Proofs.YtajlhdmnincehaaGreatDoor

/- A disk that holds nothing, opened (layers 12, 13, 21). -/
namespace Go.Proofs.YtajlhdmnincehaaGreatDoor
open Go.RowKit
set_option linter.unusedVariables false

/-- A disk that is on, and of which a file holds nothing. -/
def Emp (st : Dm.Ds) (f : Nat) : Prop := rdB st f = [] ∧ rdE st f = 0

set_option maxRecDepth 20000 in
set_option maxHeartbeats 2000000 in
theorem wopen0_any (q : Nat) (F : Nat → Prop) (w : World) (st : Dm.Ds) (h : Pk q F w st) (hs : Big 100000000 800000 st) (he : Emp st 0) :
    Calls Tryz.prog 130 #[.pointer (some ⟨q, 0, none⟩)] w fun E w' => Below w.heap.size w w' ∧ ∃ p G, E = .returned (.tuple #[.pointer (some ⟨p, 0, none⟩), .int .i64 0]) ∧ Wk p q G w' [] false ∧ ∀ g, G g → w.heap.size ≤ g := by
  have HR := hide (dread_any q F w st 0 h (fun f => Nat.le_trans (hs.1.1 f) (by decide)) (Nat.le_trans hs.1.2.1 (by decide)))
  have e1 : rdB st 0 = [] := he.1
  have e2 : rdE st 0 = 0 := he.2
  rw [e1, e2] at HR
  clear h hs he e1 e2
  go_enter Tryz.func130, Tryz.ntmps130
  go_wp2_with fail
  refine HR.out.mono ?_
  rintro E w1 ⟨v, rfl, own, bel⟩
  have HW := hide (wread0_any v w1 own.is)
  obtain ⟨a, c, hv, _, _⟩ := own.is.shape
  subst hv
  have sz1 := bel.size
  clear own HR
  go_wp2_with fail
  refine HW.out.mono ?_
  rintro E w2 ⟨rfl, bel2⟩
  obtain ⟨W, hW, szW, belW, bW⟩ := blk_step w2 #[.pointer (some ⟨q, 0, none⟩), .bool false, .slice none 0 0, .slice none 0 0] 192
  have sz2 := bel2.size
  have hv : WkV w2.heap.size q W [] false (.slice none 0 0) (.slice none 0 0) [] := ⟨bW, Lw.nil _ _⟩
  have b0W : Below w.heap.size w W := (bel.trans (bel2.mono bel.size)).trans (belW.mono (by omega))
  have HLen := hide (wlength_v w2.heap.size q W [] false _ _ [] hv)
  have ge : ∀ g, (g = w2.heap.size ∨ LB (.slice none 0 0) (.slice none 0 0) ([] : List Cw) g) → w.heap.size ≤ g := by
    rintro g (e | e | e | e)
    · omega
    · cases e
    · cases e
    · obtain ⟨c, hc, _⟩ := e
      cases hc
  have HV := hide (And.intro hv (And.intro b0W ge))
  clear bel2 belW bW hv HW ge b0W bel
  go_wp2_with fail
  refine HLen.out.mono ?_
  rintro E w3 ⟨rfl, m, rfl⟩
  have W3 : Hid (Below w.heap.size w (W.drewN m) ∧ Wk w2.heap.size q (fun g => g = w2.heap.size ∨ LB (.slice none 0 0) (.slice none 0 0) ([] : List Cw) g) (W.drewN m) [] false) := hide ⟨below_drewN HV.out.2.1 m, Wk.below ⟨_, _, [], HV.out.1, rfl⟩ (below_drewN (Below.refl _ _) m)⟩
  clear HLen
  go_wp2
  go_ret2
  exact ⟨W3.out.1, _, _, rfl, W3.out.2, HV.out.2.2⟩

set_option maxRecDepth 20000 in
set_option maxHeartbeats 2000000 in
theorem hopen0_any (q : Nat) (F : Nat → Prop) (w : World) (st : Dm.Ds) (h : Pk q F w st) (hs : Big 100000000 800000 st) (he : Emp st 2) :
    Calls Tryz.prog 135 #[.pointer (some ⟨q, 0, none⟩)] w fun E w' => Below w.heap.size w w' ∧ ∃ p G, E = .returned (.tuple #[.pointer (some ⟨p, 0, none⟩), .int .i64 0]) ∧ Rk p q G w' [] false ∧ ∀ g, G g → w.heap.size ≤ g := by
  have HR := hide (dread_any q F w st 2 h (fun f => Nat.le_trans (hs.1.1 f) (by decide)) (Nat.le_trans hs.1.2.1 (by decide)))
  have e1 : rdB st 2 = [] := he.1
  have e2 : rdE st 2 = 0 := he.2
  rw [e1, e2] at HR
  clear h hs he e1 e2
  go_enter Tryz.func135, Tryz.ntmps135
  go_wp2_with fail
  refine HR.out.mono ?_
  rintro E w1 ⟨v, rfl, own, bel⟩
  have HW := hide (hscan0_any v [] w1 own.is rfl)
  obtain ⟨a, c, hv, _, _⟩ := own.is.shape
  subst hv
  have sz1 := bel.size
  clear own HR
  go_wp2_with fail
  refine HW.out.mono ?_
  rintro E w2 ⟨rfl, bel2⟩
  obtain ⟨W, hW, szW, belW, bW⟩ := blk_step w2 #[.pointer (some ⟨q, 0, none⟩), .bool false, .slice none 0 0] 196
  have sz2 := bel2.size
  have hv : RkV w2.heap.size q W [] false (.slice none 0 0) [] := ⟨bW, Rq.nil _ _⟩
  have b0W : Below w.heap.size w W := (bel.trans (bel2.mono bel.size)).trans (belW.mono (by omega))
  have ge : ∀ g, (g = w2.heap.size ∨ QB (.slice none 0 0) ([] : List Cw) g) → w.heap.size ≤ g := by
    rintro g (e | e | e)
    · omega
    · cases e
    · obtain ⟨c, hc, _⟩ := e
      cases hc
  have HV := hide (And.intro hv (And.intro b0W ge))
  clear bel2 belW bW hv HW ge b0W bel
  go_wp2
  go_ret2
  exact ⟨HV.out.2.1, _, _, rfl, ⟨_, [], HV.out.1, rfl⟩, HV.out.2.2⟩

set_option maxHeartbeats 2000000 in
theorem openlog0_any (P q : Nat) (F : Nat → Prop) (w : World) (st : Dm.Ds) (x : Pm.Pg) (vr vs : Value) (h : Pk q F w st) (hs : Big 100000000 800000 st) (he : Emp st 0) (hb : w.heap[P]? = some (.cells (stC q false x (.pointer none) 0 vr vs) 107 (0, 0))) (hP : ¬ F P) :
    Calls Tryz.prog 70 #[.pointer (some ⟨P, 0, none⟩)] w fun E w' => E = .returned (.int .i64 0) ∧ Out (fun g => g = P) w w' ∧ ∃ pw Gw, Wk pw q Gw w' [] false ∧ (∀ g, Gw g → w.heap.size ≤ g) ∧ w'.heap[P]? = some (.cells (stC q false x (.pointer (some ⟨pw, 0, none⟩)) 0 vr vs) 107 (0, 0)) := by
  have hpl := blk_lt hb
  have c0 : w.cell? ⟨P, 0, none⟩ = some (.pointer (some ⟨q, 0, none⟩)) := blk_cell hb 0 rfl
  have WO := hide (wopen0_any q F w st h hs he)
  have HB := hide (And.intro hb h)
  clear h hs hb he
  go_enter Tryz.func70, Tryz.ntmps70
  go_wp2_with fail
  refine WO.out.mono ?_
  rintro E w1 ⟨b1, pw, Gw, rfl, hW, hG⟩
  clear WO
  have hb1 := (b1.block P hpl).trans HB.out.1
  have f8 := blk_froz hb1 8
  have a8 : w1.cell? ⟨P, 8, none⟩ = some (.pointer none) := blk_cell hb1 8 rfl
  obtain ⟨V1, V2, hV1, hV2, p1, p2, o1, o2⟩ := put_wal hb1 (.pointer (some ⟨pw, 0, none⟩)) 0
  have d8 : V1.cell? ⟨P, 8, none⟩ = some (.pointer (some ⟨pw, 0, none⟩)) := blk_cell p1 8 rfl
  have d9 : V1.cell? ⟨P, 9, none⟩ = some (.int .i64 0) := blk_cell p1 9 rfl
  have f9 := blk_froz p1 9
  have nG : ∀ g, Gw g → ¬ g = P := fun g hg e => by have := hG g hg; omega
  have pk : Pk q F V1 st := (HB.out.2.below b1).agree fun g hg => o1.block g ((HB.out.2.below b1).lt g hg) fun e => hP (e ▸ hg)
  have HN := hide (wend_any pw q _ V1 ⟨st, [], false⟩ ⟨F, Gw, pk, hW.out o1 nG, rfl⟩)
  have R := hide (show Out (fun g => g = P) w V2 ∧ ∃ pw Gw, Wk pw q Gw V2 [] false ∧ (∀ g, Gw g → w.heap.size ≤ g) ∧ V2.heap[P]? = some (.cells (stC q false x (.pointer (some ⟨pw, 0, none⟩)) 0 vr vs) 107 (0, 0)) from ⟨((Out.of_below (F := fun g => g = P) b1).trans o1 fun g hg => .inl hg).trans o2 fun g hg => .inl hg, pw, Gw, (hW.out o1 nG).out o2 nG, hG, p2⟩)
  clear hb1 pk p1 p2 o1 o2 HB hP hW hG nG b1
  go_wp2_with fail
  refine HN.out.mono ?_
  rintro E w2 ⟨rfl, rfl⟩
  clear HN
  go_wp2
  go_ret
  exact ⟨rfl, R.out⟩

set_option maxHeartbeats 2000000 in
theorem openruns0_any (P q : Nat) (F : Nat → Prop) (w : World) (st : Dm.Ds) (x : Pm.Pg) (vw vs : Value) (en : Int) (h : Pk q F w st) (hs : Big 100000000 800000 st) (he : Emp st 2) (hb : w.heap[P]? = some (.cells (stC q false x vw en (.pointer none) vs) 107 (0, 0))) :
    Calls Tryz.prog 73 #[.pointer (some ⟨P, 0, none⟩)] w fun E w' => E = .returned (.int .i64 0) ∧ Out (fun g => g = P) w w' ∧ ∃ pr Gr, Rk pr q Gr w' [] false ∧ (∀ g, Gr g → w.heap.size ≤ g) ∧ w'.heap[P]? = some (.cells (stC q false x vw en (.pointer (some ⟨pr, 0, none⟩)) vs) 107 (0, 0)) := by
  have hpl := blk_lt hb
  have c0 : w.cell? ⟨P, 0, none⟩ = some (.pointer (some ⟨q, 0, none⟩)) := blk_cell hb 0 rfl
  have WO := hide (hopen0_any q F w st h hs he)
  have HB := hide hb
  clear h hs hb he
  go_enter Tryz.func73, Tryz.ntmps73
  go_wp2_with fail
  refine WO.out.mono ?_
  rintro E w1 ⟨b1, pr, Gr, rfl, hW, hG⟩
  clear WO
  have hb1 := (b1.block P hpl).trans HB.out
  have f8 := blk_froz hb1 11
  have a8 : w1.cell? ⟨P, 11, none⟩ = some (.pointer none) := blk_cell hb1 11 rfl
  obtain ⟨V1, hV1, p1, o1⟩ := put_run hb1 (.pointer (some ⟨pr, 0, none⟩))
  have nG : ∀ g, Gr g → ¬ g = P := fun g hg e => by have := hG g hg; omega
  have R := hide (show Out (fun g => g = P) w V1 ∧ ∃ pr Gr, Rk pr q Gr V1 [] false ∧ (∀ g, Gr g → w.heap.size ≤ g) ∧ V1.heap[P]? = some (.cells (stC q false x vw en (.pointer (some ⟨pr, 0, none⟩)) vs) 107 (0, 0)) from ⟨(Out.of_below (F := fun g => g = P) b1).trans o1 fun g hg => .inl hg, pr, Gr, hW.out o1 nG, hG, p1⟩)
  clear hb1 p1 o1 HB hW hG nG b1
  go_wp2
  go_ret
  exact ⟨rfl, R.out⟩

theorem ptrim0_any (p : Nat) (w : World) (f n : Int) : Calls Tryz.prog 134 #[.pointer (some ⟨p, 0, none⟩), .int .i64 f, .int .i64 n, .int .i64 n] w fun E w' => E = .returned (.int .i64 0) ∧ Below w.heap.size w w' := by
  obtain ⟨w1, hw1, s1, b1, P1⟩ := blk_step w #[.pointer (some ⟨p, 0, none⟩)] 236
  obtain ⟨w2, hw2, s2, b2, P2⟩ := blk_step w1 #[.int .i64 f] 3
  obtain ⟨w3, hw3, s3, b3, P3⟩ := blk_step w2 #[.int .i64 n] 3
  have z2 : w2.heap.size = w.heap.size + 2 := by omega
  rw [z2] at P3
  have B := hide (show Below w.heap.size w w3 from b1.trans ((b2.mono (by omega)).trans (b3.mono (by omega))))
  have c3n : w3.cell? ⟨w.heap.size + 2, 0, none⟩ = some (.int .i64 n) := blk_cell P3 0 rfl
  have hq : (n == n) = true := by simp
  clear b1 b2 b3 P1 P2 P3
  go_enter Tryz.func134, Tryz.ntmps134
  go_wp2
  go_ret
  exact ⟨rfl, B.out⟩

set_option maxRecDepth 20000 in
set_option maxHeartbeats 4000000 in
theorem openpages0_any (P q : Nat) (F : Nat → Prop) (w : World) (st : Dm.Ds) (x : Pm.Pg) (vw vr vs : Value) (en node : Int) (h : Pk q F w st) (hs : Big 100000000 800000 st) (he : Emp st 1) (hb : w.heap[P]? = some (.cells (stC q false x vw en vr vs) 107 (0, 0))) (hn : fse node = 0) :
    Calls Tryz.prog 72 #[.pointer (some ⟨P, 0, none⟩), .int .i64 node] w fun E w' => E = .returned (.int .i64 0) ∧ Out (fun g => g = P) w w' ∧ w'.heap[P]? = some (.cells (stC q false (fst node) vw en vr vs) 107 (0, 0)) := by
  have hpl := blk_lt hb
  have c0 : w.cell? ⟨P, 0, none⟩ = some (.pointer (some ⟨q, 0, none⟩)) := blk_cell hb 0 rfl
  have R1 := hide (dread_any q F w st 1 h (fun f => Nat.le_trans (hs.1.1 f) (by decide)) (Nat.le_trans hs.1.2.1 (by decide)))
  have r1 : rdB st 1 = [] := he.1
  have r2 : rdE st 1 = 0 := he.2
  rw [r1, r2] at R1
  obtain ⟨bs, hbs⟩ : ∃ bs : List Int, bs = [] := ⟨_, rfl⟩
  rw [← hbs] at R1
  have HBS := hide hbs
  have HH := hide (And.intro hb hn)
  clear h hs hb r1 r2 he hn hbs
  go_enter Tryz.func72, Tryz.ntmps72
  go_wp2_with fail
  refine R1.out.mono ?_
  rintro E w1 ⟨v, rfl, O1, B1⟩
  obtain ⟨ao, cap, hv, _, _⟩ := O1.is.shape
  subst hv
  have LA := hide (last0_any _ bs node w1 O1.is HBS.out HH.out.2)
  unfold vp at LA
  have B1 := hide B1
  clear R1 O1
  go_wp2_with fail
  refine LA.out.mono ?_
  rintro E w2 ⟨rfl, B2⟩
  clear LA
  have hb := HH.out.1
  have b12 := B1.out.trans (B2.mono B1.out.size)
  obtain ⟨y, hy⟩ : ∃ p, fst node = p := ⟨_, rfl⟩
  rw [hy]
  have HY := hide hy
  clear hy
  obtain ⟨V, hV, hV', sV, bV, PV, ⟨z0, z1, z2, z3, z4, z5⟩⟩ := new6 w2 60 (.int .i64 0) (.int .u8 0) (.int .i64 0) (.int .u8 0) (.int .i64 0) (.int .i64 0) (.int .i64 y.e) (.int .u8 y.r) (.int .i64 y.a) (.int .u8 y.p) (.int .i64 y.f) (.int .i64 y.b)
  have b0V := b12.trans (bV.mono b12.size)
  have pV := (b0V.block P hpl).trans hb
  obtain ⟨_, _, q2, q3, q4, q5, q6, q7, _⟩ := sta_of pV
  obtain ⟨Z, hZ, pZ, gZ, fr⟩ := put_page pV y
  have f2 := fr 2; have f3 := fr 3; have f4 := fr 4; have f5 := fr 5; have f6 := fr 6; have f7 := fr 7
  have oZ : Out (fun g => g = P) V Z := Out.of_grown gZ fun i hi => by simpa using hi.symm
  have TR := hide (ptrim0_any P Z 1 0)
  have R : Hid (∀ w', Below Z.heap.size Z w' → Out (fun g => g = P) w w' ∧ w'.heap[P]? = some (.cells (stC q false y vw en vr vs) 107 (0, 0))) := hide (by
    intro w' k
    exact ⟨((Out.of_below (F := fun g => g = P) b0V).trans oZ fun g hg => .inl hg).trans (Out.of_below (F := fun g => g = P) k) fun g hg => .inl hg, (k.block P (blk_lt pZ)).trans pZ⟩)
  have hl0 : bs.length = 0 := by rw [HBS.out]; rfl
  clear hb b12 bV PV b0V pV pZ gZ fr oZ HH B1 B2 sV
  rw [hl0]
  go_wp2_with fail
  refine TR.out.mono ?_
  rintro E w3 ⟨rfl, k⟩
  have RR := hide (R.out w3 k)
  clear k R TR
  go_wp2
  go_ret
  exact ⟨rfl, by rw [HY.out]; exact RR.out⟩

end Go.Proofs.YtajlhdmnincehaaGreatDoor

/- A new disk, opened (layer 21). -/
namespace Go.Proofs.YtajlhdmnincehaaGreatDoor
open Go.RowKit
set_option linter.unusedVariables false

set_option maxHeartbeats 2000000 in
theorem openorph0_any (P q : Nat) (F : Nat → Prop) (w : World) (st : Dm.Ds) (cs : Array Value) (h : Pk q F w st) (hs : Big 100000000 800000 st) (he : Emp st 3) (hb : w.heap[P]? = some (.cells cs 107 (0, 0))) (hc : cs[0]? = some (.pointer (some ⟨q, 0, none⟩))) :
    Calls Tryz.prog 74 #[.pointer (some ⟨P, 0, none⟩)] w fun E w' => E = .returned (.int .i64 0) ∧ Below w.heap.size w w' := by
  have c0 : w.cell? ⟨P, 0, none⟩ = some (.pointer (some ⟨q, 0, none⟩)) := blk_cell hb 0 hc
  have R1 := hide (dread_any q F w st 3 h (fun f => Nat.le_trans (hs.1.1 f) (by decide)) (Nat.le_trans hs.1.2.1 (by decide)))
  have r1 : rdB st 3 = [] := he.1
  have r2 : rdE st 3 = 0 := he.2
  rw [r1, r2] at R1
  obtain ⟨bs, hbs⟩ : ∃ bs : List Int, bs = [] := ⟨_, rfl⟩
  rw [← hbs] at R1
  have HL0 : Hid (bs.length = 0) := hide (by rw [hbs]; rfl)
  have hl : bs.length ≤ 1000 := by rw [HL0.out]; decide
  clear h hs hb r1 r2 he hbs
  go_enter Tryz.func74, Tryz.ntmps74
  go_wp2_with fail
  refine R1.out.mono ?_
  rintro E w1 ⟨v, rfl, O1, B1⟩
  obtain ⟨ao, cap, hv, _, _⟩ := O1.is.shape
  subst hv
  have SC := hide (oscan0_any _ _ w1 O1.is (List.eq_nil_of_length_eq_zero HL0.out))
  have B1 := hide B1
  clear R1 O1
  go_wp2_with fail
  refine SC.out.mono ?_
  rintro E w2 ⟨rfl, B2⟩
  clear SC
  have b12 := B1.out.trans (B2.mono B1.out.size)
  have TR := hide (ptrim0_any P w2 3 0)
  have c2 : w2.cell? ⟨P, 0, none⟩ = some (.pointer (some ⟨q, 0, none⟩)) := by
    rw [← c0]
    have hP : P < w.heap.size := by
      rcases Nat.lt_or_ge P w.heap.size with k | k
      · exact k
      · rw [World.cell?, Array.getElem?_eq_none k] at c0; cases c0
    have := b12.block P hP
    simp [World.cell?, this]
  have B := hide b12
  clear B1 B2 b12
  rw [HL0.out]
  go_wp2_with fail
  refine TR.out.mono ?_
  rintro E w3 ⟨rfl, k⟩
  have RR := hide (B.out.trans (k.mono B.out.size))
  clear k TR
  go_wp2
  go_ret
  exact ⟨rfl, RR.out⟩

theorem OpI.own {q n0 P : Nat} {F Fk : Nat → Prop} {w w5 W W' : World} {d : Dm.Ds} (h : OpI q F w w5 W n0 P Fk d) (h0 : ¬ F 0) (hp : 0 < w.heap.size) (hP : w.heap.size ≤ P) (hn : n0 < P) (o : Out (fun g => g = P) W W') : OpI q F w w5 W' n0 P Fk d :=
  h.step h0 hp hP hn (h.dsk.agree fun g hg => o.block g (h.dsk.lt g hg) fun e => (h.nb P (.inr (.inl rfl))).1 (e ▸ hg)) (o.mono fun g hg => .inl (.inr hg)) fun g hg => .inl hg

set_option maxHeartbeats 2000000 in
theorem open0_run (q : Nat) (F F2 : Nat → Prop) (w w5 : World) (n0 P : Nat) (node : Int) (I5 : OpI q F w w5 w5 n0 P F2 Dm.new) (h0 : ¬ F 0) (hp : 0 < w.heap.size) (hP : w.heap.size ≤ P) (hn : n0 < P) (hn0 : w5.heap[n0]? = some (.cells #[.int .i64 node] 3 (0, 0))) (hP1 : w5.heap[P + 1]? = some (.cells #[.pointer (some ⟨P, 0, none⟩)] 33 (0, 0))) (hPb : w5.heap[P]? = some (.cells (stC q false Pm.no (.pointer none) 0 (.pointer none) (.pointer none)) 107 (0, 0))) (hnode : node = 0 ∨ node = 1) :
    Run (P + 2) (fun e W => W.heap[P + 1]? = w5.heap[P + 1]? ∧ e = 0 ∧ ∃ F', (Pk q F' W Dm.new ∧ Out F w W ∧ ∀ g, F' g → F g ∨ w.heap.size ≤ g) ∧ ∃ G, PO P q G W ⟨Dm.new, fst node, [], [], false⟩ ∧ ∀ g, G g → w.heap.size ≤ g ∧ ¬ F' g) [.func (.func 68) #[] #[.pointer (some ⟨n0, 0, none⟩)], .func (.func 70) #[.pointer (some ⟨P, 0, none⟩)] #[], .func (.func 71) #[] #[.pointer (some ⟨P + 1, 0, none⟩), .pointer (some ⟨n0, 0, none⟩)], .func (.func 73) #[.pointer (some ⟨P, 0, none⟩)] #[], .func (.func 74) #[.pointer (some ⟨P, 0, none⟩)] #[], .func (.func 75) #[] #[.pointer (some ⟨P + 1, 0, none⟩)], .func (.func 78) #[.pointer (some ⟨P, 0, none⟩)] #[]] w5 := by
  obtain ⟨oky, fe⟩ := fst_ok hnode
  have hB : Big 100000000 800000 Dm.new := big_new.mono (by omega) (by omega)
  have nP : P = n0 ∨ P = P ∨ P = P + 1 ∨ P = P + 2 := .inr (.inl rfl)
  have l2 : ∀ {W Fk d}, OpI q F w w5 W n0 P Fk d → P + 2 < W.heap.size ∧ ¬ (P + 2 = P) := fun h => ⟨(h.nb _ (.inr (.inr (.inr rfl)))).2, by omega⟩
  have hsn : Rst.snd (fst node) [] (Cm.lastN 0 []) 0 = true := by rcases hnode with rfl | rfl <;> decide
  refine Run.cons (enters_of Tryz.func68 (by kernel_rfl) rfl) (by simp) ((open1_any n0 node w5 (blk_cell hn0 0 rfl)).mono ?_)
  rintro E W1 ⟨rfl, b1⟩
  refine ⟨_, rfl, b1.block _ (l2 I5).1, .inr ⟨fe, ?_⟩⟩
  have I1 := I5.below h0 hp hP hn b1
  have p1 := (b1.block P (I5.nb P nP).2).trans hPb
  refine Run.cons (enters_of Tryz.func70 (by kernel_rfl) rfl) (by simp) ((openlog0_any P q F2 W1 Dm.new Pm.no _ _ I1.dsk hB ⟨rfl, rfl⟩ p1 (I1.nb P nP).1).mono ?_)
  rintro E W2 ⟨rfl, o1, pw, Gw, hW, hGw, p2⟩
  have I2 := I1.own h0 hp hP hn o1
  refine ⟨_, rfl, o1.block _ (l2 I1).1 (l2 I1).2, .inr ⟨rfl, ?_⟩⟩
  refine Run.cons (enters_of Tryz.func71 (by kernel_rfl) rfl) (by simp) ((open2_any (P + 1) n0 P node 0 W2 (fun e w' => e = 0 ∧ Out (fun g => g = P) W2 w' ∧ w'.heap[P]? = some (.cells (stC q false (fst node) (.pointer (some ⟨pw, 0, none⟩)) 0 (.pointer none) (.pointer none)) 107 (0, 0))) (blk_cell ((I2.keep _ (.inr (.inl rfl))).trans hP1) 0 rfl) (blk_cell ((I2.keep _ (.inl rfl)).trans hn0) 0 rfl) ((openpages0_any P q F2 W2 Dm.new Pm.no _ _ _ _ node I2.dsk hB ⟨rfl, rfl⟩ p2 fe).mono ?_)).mono ?_)
  · rintro E w' ⟨rfl, k⟩
    exact ⟨_, rfl, rfl, k⟩
  rintro E W3 ⟨_, rfl, rfl, o2, p3⟩
  have I3 := I2.own h0 hp hP hn o2
  have nw : ∀ g, Gw g → ¬ g = P := fun g hg e => by have := hGw g hg; have := (I1.nb P nP).2; omega
  have hW3 := hW.out o2 nw
  refine ⟨_, rfl, o2.block _ (l2 I2).1 (l2 I2).2, .inr ⟨rfl, ?_⟩⟩
  refine Run.cons (enters_of Tryz.func73 (by kernel_rfl) rfl) (by simp) ((openruns0_any P q F2 W3 Dm.new _ _ _ _ I3.dsk hB ⟨rfl, rfl⟩ p3).mono ?_)
  rintro E W4 ⟨rfl, o3, pr, Gr, hR, hGr, p4⟩
  have I4 := I3.own h0 hp hP hn o3
  have hW4 := hW3.out o3 nw
  have z1 := o1.size
  have z2 := o2.size
  have z3 := o3.size
  refine ⟨_, rfl, o3.block _ (l2 I3).1 (l2 I3).2, .inr ⟨rfl, ?_⟩⟩
  refine Run.cons (enters_of Tryz.func74 (by kernel_rfl) rfl) (by simp) ((openorph0_any P q F2 W4 Dm.new _ I4.dsk hB ⟨rfl, rfl⟩ p4 rfl).mono ?_)
  rintro E W5 ⟨rfl, b5⟩
  have I6 := I4.below h0 hp hP hn b5
  have p5 := (b5.block P (I4.nb P nP).2).trans p4
  refine ⟨_, rfl, b5.block _ (l2 I4).1, .inr ⟨rfl, ?_⟩⟩
  have SE := sec_c P q F2 W5 Dm.new [] I6.dsk (big_new.mono (by omega) (by omega)) (blk_cell p5 0 rfl) (blk_lt p5) rfl rfl rfl
  refine Run.cons (enters_of Tryz.func75 (by kernel_rfl) rfl) (by simp) ((open3_any (P + 1) P q pw pr _ _ W5 _ (fst node) _ _ _ ⟨Dm.new, [], false⟩ ⟨Dm.new, [], false⟩ (blk_cell ((I6.keep _ (.inr (.inl rfl))).trans hP1) 0 rfl) p5 ⟨F2, Gw, I6.dsk, hW4.below b5, rfl⟩ ⟨F2, Gr, I6.dsk, hR.below b5, rfl⟩ SE).mono ?_)
  rintro E W6 ⟨rfl, b6⟩
  have hc : chO (fst node) (Cm.lastE 0 []) 0 (Cm.lastN 0 []) 0 = true := (cho_snd oky [] _ _).trans hsn
  have hc : (if chO (fst node) (Cm.lastE 0 []) 0 (Cm.lastN 0 []) ((Orp.secs []).length : Int) = true then (0 : Int) else 5) = 0 := if_pos hc
  have I7 := I6.below h0 hp hP hn b6
  refine ⟨_, rfl, b6.block _ (l2 I6).1, .inr ⟨hc, ?_⟩⟩
  have hW6 := (hW4.below b5).below b6
  have hR6 := (hR.below b5).below b6
  refine Run.cons (enters_of Tryz.func78 (by kernel_rfl) rfl) (by simp) ((openstore_any P q pw pr F2 Gw Gr W6 false (fst node) _ Dm.new [] [] ((b6.block P (blk_lt p5)).trans p5) ⟨_, rfl⟩ I7.dsk hW6 hR6 (by decide) (by decide)).mono ?_)
  rintro E W7 ⟨rfl, ps, Gs, hS7, hGs, p7, o7⟩
  have I8 := I7.own h0 hp hP hn o7
  have s1 := I1.out.size
  have lP := (I1.nb P nP).2
  have z5 := b5.size
  have z6 := b6.size
  have a1 := hW.lt
  have a2 := hR.lt
  have gw : ∀ g, Gw g → W1.heap.size ≤ g ∧ g < W2.heap.size := fun g hg => ⟨hGw g hg, a1 g hg⟩
  have gr : ∀ g, Gr g → W3.heap.size ≤ g ∧ g < W4.heap.size := fun g hg => ⟨hGr g hg, a2 g hg⟩
  refine ⟨_, rfl, o7.block _ (l2 I7).1 (l2 I7).2, .inr ⟨rfl, I8.keep _ (.inr (.inl rfl)), rfl, F2, ⟨I8.dsk, I8.out, I8.far⟩, PB P Gw Gr Gs, ⟨pw, pr, ps, Gw, Gr, Gs, [], false, false, ⟨p7, hW6.out o7 nw, hR6.out o7 fun g hg e => by have := gr g hg; omega, hS7, rfl, fun _ => ⟨rfl, rfl, rfl⟩, oky, fit_ok oky, trivial, show (0 : Int) ≤ 0 from Int.le_refl _, ⟨fun e => nw P e rfl, fun e => by have := gr P e; omega, fun e => by have := hGs P e; omega⟩, fun g hg e => by have := gw g hg; have := gr g e; omega, fun g hg e => by have := gw g hg; have := hGs g e; omega, fun g hg e => by have := gr g hg; have := hGs g e; omega⟩, rfl⟩, ?_⟩⟩
  rintro g (rfl | e | e | e)
  · exact ⟨hP, (I8.nb g nP).1⟩
  · exact ⟨by have := gw g e; omega, wk_pk hW6 I7.dsk g e⟩
  · exact ⟨by have := gr g e; omega, rk_pk hR6 I7.dsk g e⟩
  · exact ⟨by have := hGs g e; omega, fun k => by have := hGs g e; have := I7.dsk.lt g k; omega⟩

theorem open0F_any (q : Nat) (F : Nat → Prop) (w : World) (h : Pk q F w Dm.new) (hm : Mst w) (h0 : ¬ F 0) (node : Int) (hn : node = 0 ∨ node = 1) :
    Calls Tryz.prog 38 #[.pointer (some ⟨q, 0, none⟩), .int .i64 node] w fun E w' => ∃ p F', E = .returned (.tuple #[.pointer (some ⟨p, 0, none⟩), .int .i64 0]) ∧ PS p q F' w' ⟨Dm.new, fst node, [], [], false⟩ ∧ (∀ g, F' g → F g ∨ w.heap.size ≤ g) ∧ Out F w w' := by
  refine (open_gen q F w Dm.new node h hm h0 (big_new.mono (by omega) (by omega)) (fun P e W => e = 0 ∧ ∃ F', (Pk q F' W Dm.new ∧ Out F w W ∧ ∀ g, F' g → F g ∨ w.heap.size ≤ g) ∧ ∃ G, PO P q G W ⟨Dm.new, fst node, [], [], false⟩ ∧ ∀ g, G g → w.heap.size ≤ g ∧ ¬ F' g) ?_).mono ?_
  · intro F2 w5 n0 P e1 I5 hP hn0 c1 c2 c3
    exact open0_run q F F2 w w5 n0 P node I5 h0 hm.pos hP hn0 c1 c2 c3 hn
  · rintro E w' ⟨P, e, HX, hE⟩
    obtain ⟨rfl, F', ⟨k1, k2, k3⟩, G, k4, k5⟩ := HX.out
    rcases hE with ⟨c1, _⟩ | ⟨_, rfl⟩
    · exact absurd rfl c1
    · refine ⟨P, _, rfl, ⟨F', G, k1, k4, fun g hg => (k5 g hg).2, mst_out hm k2 h0, rfl⟩, fun g hg => ?_, k2⟩
      rcases hg with hg | hg
      · exact k3 g hg
      · exact .inr (k5 g hg).1


end Go.Proofs.YtajlhdmnincehaaGreatDoor

/- The program's node (layer 23): another page is entered; a new disk is opened; a node is made. -/
namespace Go.Proofs.YtajlhdmnincehaaGreatDoor
open Go.RowKit
set_option linter.unusedVariables false

/-- A node's memory is laid as at first. -/
theorem nd_mem {n q p : Nat} {w : World} {u t a : Int} {cs : List Value} (hl : cs.length = 11) (hb : w.heap[n]? = some (.cells (.int .i64 u :: .int .i64 t :: .pointer (some ⟨q, 0, none⟩) :: cs).toArray 37 (0, 0))) :
    ∃ V, sets n w 3 (mem0 p a) = V ∧ V.heap[n]? = some (.cells (.int .i64 u :: .int .i64 t :: .pointer (some ⟨q, 0, none⟩) :: mem0 p a).toArray 37 (0, 0)) ∧ w.grownBy V (some n) := by
  obtain ⟨k1, k2⟩ := sets_any n 37 (mem0 p a) w 3 _ hb (by simp [mem0, hl])
  refine ⟨_, rfl, ?_, k2⟩
  rw [k1]
  simp [mem0, hl]

/-- A node as at first, over a state. -/
def Ns.one (u t : Int) (s : Rst.St) : Ns := ⟨u, t, s.p.a, -1, mno, s⟩


end Go.Proofs.YtajlhdmnincehaaGreatDoor

/- The program's node (layer 23): a new disk is opened; a node is made. -/
namespace Go.Proofs.YtajlhdmnincehaaGreatDoor
open Go.RowKit
set_option linter.unusedVariables false

theorem nref_down (n q : Nat) (w : World) (h2 : w.cell? ⟨n, 2, none⟩ = some (.pointer (some ⟨q, 0, none⟩))) (h3 : w.cell? ⟨n, 3, none⟩ = some (.pointer none)) :
    Calls Tryz.prog 37 #[.pointer (some ⟨n, 0, none⟩)] w fun E w' => E = .returned (.int .i64 7) ∧ w = w' := by
  go_enter Tryz.func37, Tryz.ntmps37
  go_wp2
  go_ret
  exact ⟨rfl, rfl⟩

/-- The state of a new disk. -/
def new23 (u : Int) : Rst.St := ⟨Dm.new, fst u, [], [], false⟩
theorem new23_rok (u : Int) : Rok (new23 u) := ⟨big_new.mono (by omega) (by omega), by simp [new23]⟩

/-- What a node has in memory that is down. -/
def mem1 : List Value := [.pointer none, .int .i64 0, .int .i64 0, .int .i64 0, .int .i64 0, .int .u8 0, .int .i64 0, .slice none 0 0, .int .i64 0, .int .i64 0, .slice none 0 0]

set_option maxHeartbeats 2000000 in
theorem nopen0_any (n q : Nat) (F : Nat → Prop) (w : World) (u t : Int) (hb : w.heap[n]? = some (.cells (.int .i64 u :: .int .i64 t :: .pointer (some ⟨q, 0, none⟩) :: mem1).toArray 37 (0, 0))) (h : Pk q F w Dm.new) (hm : Mst w) (h0 : ¬ F 0) (hn : ¬ F n) (hu : u = 0 ∨ u = 1) :
    Calls Tryz.prog 10 #[.pointer (some ⟨n, 0, none⟩)] w fun E w' => E = .returned (.int .i64 0) ∧ ∃ p, NdS n p q F w w' (Ns.one u t (new23 u)) := by
  have c0 : w.cell? ⟨n, 0, none⟩ = some (.int .i64 u) := blk_cell hb 0 rfl
  have c2 : w.cell? ⟨n, 2, none⟩ = some (.pointer (some ⟨q, 0, none⟩)) := blk_cell hb 2 rfl
  have c3 : w.cell? ⟨n, 3, none⟩ = some (.pointer none) := blk_cell hb 3 rfl
  have RF := hide (nref_down n q w c2 c3)
  have n0 : n ≠ 0 := fun e => by
    have a := hm.c2
    rw [e, a] at c2
    cases c2
  have hd : Below w.heap.size w w.drew := (Below.refl _ _).drew
  have OP : Hid (Calls Tryz.prog 38 #[.pointer (some ⟨q, 0, none⟩), .int .i64 u] w.drew fun E w' => ∃ p F', E = .returned (.tuple #[.pointer (some ⟨p, 0, none⟩), .int .i64 0]) ∧ Hid (PS p q F' w' (new23 u) ∧ (∀ g, F' g → F g ∨ w.heap.size ≤ g) ∧ Out F w w') ∧ w'.heap[n]? = some (.cells (.int .i64 u :: .int .i64 t :: .pointer (some ⟨q, 0, none⟩) :: mem1).toArray 37 (0, 0))) := hide (by
    refine (open0F_any q F w.drew (h.below hd) (hm.below hd) h0 u hu).mono ?_
    rintro E w' ⟨p, F', rfl, k1, k2, k3⟩
    exact ⟨p, F', rfl, hide ⟨k1, k2, ⟨k3.os, k3.tape, k3.output, k3.size, k3.block⟩⟩, (k3.block n (blk_lt hb) hn).trans hb⟩)
  have HB := hide (And.intro hb (And.intro hn n0))
  clear h hm h0 hu hd
  go_enter Tryz.func10, Tryz.ntmps10
  go_wp2_with fail
  refine RF.out.mono ?_
  rintro E w1 ⟨rfl, rfl⟩
  clear RF hb hn n0
  go_wp2_with fail
  go_region_held3 (fun w' => w'.cell? ⟨n, 0, none⟩ = some (.int .i64 u) ∧ w'.cell? ⟨n, 2, none⟩ = some (.pointer (some ⟨q, 0, none⟩))) (first | exact ⟨c0, c2⟩ | exact ⟨blk_cell p2 0 rfl, blk_cell p2 2 rfl⟩ | go_keep)
    (first | (go_at_call 38; refine OP.out.mono ?_; rintro E w2 ⟨p, F2, rfl, K2, p2⟩))
  clear OP
  have FI := hide (nfirst_any p q F2 w2 (new23 u) K2.out.1 (new23_rok u))
  go_wp2_with fail
  refine FI.out.mono ?_
  rintro E w3 ⟨rfl, b3⟩
  obtain ⟨k1, k2, k3⟩ := K2.out
  obtain ⟨hb, hn, n0⟩ := HB.out
  have p3 := (b3.block n (blk_lt p2)).trans p2
  obtain ⟨a, ha⟩ : ∃ a, (new23 u).p.a = a := ⟨_, rfl⟩
  rw [ha]
  obtain ⟨V, hV, bV, gV⟩ := nd_mem (p := p) (a := a) rfl p3
  have RR : Hid (∃ p, NdS n p q F w V (Ns.one u t (new23 u))) := hide (by
    have hlt := blk_lt hb
    have nf : ¬ F2 n := fun e => by
      rcases k2 n e with e | e
      · exact hn e
      · omega
    have oo : Out (fun g => g = n) w3 V := Out.of_grown gV fun g e => (Option.some.inj e).symm
    have k3' := k1.below b3
    refine ⟨p, F2, ⟨?_, k3'.agree (fun i e => oo.block i (k3'.lt i e) fun c => nf (c ▸ e)) oo.size (mst_out k3'.mst oo fun e => n0 e.symm), nf⟩, ?_, k2⟩
    · rw [bV, ← ha]
      rfl
    · exact ((k3.mono (G := fun g => F g ∨ g = n) fun g e => .inl (.inl e)).trans (Out.of_below b3 (F := fun g => g = n)) fun g e => .inl (.inr e)).trans oo fun g e => .inl (.inr e))
  simp only [sets, mem0, Nat.reduceAdd] at hV
  unfold mem0
  have f := blk_froz p3
  have f3 := f 3; have f4 := f 4; have f5 := f 5; have f6 := f 6; have f7 := f 7; have f8 := f 8; have f9 := f 9; have f10 := f 10; have f11 := f 11; have f12 := f 12; have f13 := f 13
  have c := fun j v (e : _[j]? = some v) => blk_cell p3 j e
  have e3 := c 3 _ rfl; have e4 := c 4 _ rfl; have e5 := c 5 _ rfl; have e6 := c 6 _ rfl; have e7 := c 7 _ rfl; have e8 := c 8 _ rfl; have e9 := c 9 _ rfl; have e10 := c 10 _ rfl; have e11 := c 11 _ rfl; have e12 := c 12 _ rfl; have e13 := c 13 _ rfl
  clear FI K2 k1 k2 k3 hb hn n0 HB p2 p3 bV gV f c b3 ha c0 c2 c3
  go_wp2
  go_ret
  exact ⟨rfl, RR.out⟩

/-- Nothing is written to a new disk. -/
theorem write0_any (q : Nat) (w : World) (h : Pk q (fun g => g = q) w Dm.new) : Calls Tryz.prog 44 #[.pointer (some ⟨q, 0, none⟩), .int .i64 0, .slice none 0 0] w fun E w' => E = .returned (.int .i64 0) ∧ PStep q (fun g => g = q) w w' Dm.new :=
  write_any q _ w Dm.new 0 (.slice none 0 0) [] h (Is.nil _ _) (fun e => absurd e (by simp)) (by simp) (by decide) (by decide) (by decide)

set_option maxHeartbeats 2000000 in
theorem nnew_any (u t : Int) (hu : u = 0 ∨ u = 1) (ht : 1 ≤ t ∧ t ≤ 16) (q : Nat) (w : World) (h : Pk q (fun g => g = q) w Dm.new) (hm : Mst w) (hq : q ≠ 0) :
    Calls Tryz.prog 19 #[.int .i64 u, .int .i64 t, .pointer (some ⟨q, 0, none⟩)] w fun E w' => ∃ n p F, E = .returned (.tuple #[.pointer (some ⟨n, 0, none⟩), .int .i64 0]) ∧ Hid (Nd n p q F w' (Ns.one u t (new23 u)) ∧ (∀ g, F g ∨ g = n → g = q ∨ w.heap.size ≤ g) ∧ Out (fun g => g = q) w w') := by
  have WR := hide (write0_any q w h)
  have CK := hide (fun W => lcheck_any t W)
  have ck : Lea.ck t = 0 := by unfold Lea.ck; rw [if_pos ht]
  rw [ck] at CK
  have HM := hide (And.intro hm hq)
  have HU := hide hu
  have hn2 : ((u != 0) && (u != 1)) = false := by rcases hu with rfl | rfl <;> rfl
  clear h hm hq ht ck
  have X : Hid (∀ w1, Out (fun g => g = q) w w1 → ∀ F1, Pk q F1 w1 Dm.new → (∀ g, F1 g → g = q ∨ w.heap.size ≤ g) → ∃ V, w1.alloc (.cells #[.int .i64 u, .int .i64 t, .pointer (some ⟨q, 0, none⟩), .pointer none, .int .i64 0, .int .i64 0, .int .i64 0, .int .i64 0, .int .u8 0, .int .i64 0, .slice none 0 0, .int .i64 0, .int .i64 0, .slice none 0 0] 37) = V ∧ Hid (Calls Tryz.prog 10 #[.pointer (some ⟨w1.heap.size, 0, none⟩)] V fun E w' => E = .returned (.int .i64 0) ∧ ∃ p F, Hid (Nd w1.heap.size p q F w' (Ns.one u t (new23 u)) ∧ (∀ g, F g ∨ g = w1.heap.size → g = q ∨ w.heap.size ≤ g) ∧ Out (fun g => g = q) w w'))) := hide fun w1 o1 F1 k1 f1 => by
    obtain ⟨V, hV, sV, bV, PV⟩ := blk_step w1 #[.int .i64 u, .int .i64 t, .pointer (some ⟨q, 0, none⟩), .pointer none, .int .i64 0, .int .i64 0, .int .i64 0, .int .i64 0, .int .u8 0, .int .i64 0, .slice none 0 0, .int .i64 0, .int .i64 0, .slice none 0 0] 37
    have z1 := o1.size
    have hm1 := mst_out HM.out.1 o1 fun e => HM.out.2 e.symm
    have p0 := HM.out.1.pos
    refine ⟨V, hV, hide ((nopen0_any w1.heap.size q F1 V u t PV (k1.below bV) (hm1.below bV) (fun e => ?_) (fun e => ?_) HU.out).mono ?_)⟩
    · rcases f1 0 e with e | e
      · exact HM.out.2 e.symm
      · omega
    · have := k1.lt _ e; omega
    · rintro E w' ⟨rfl, p, F, N, o2, f2⟩
      refine ⟨rfl, p, F, hide ⟨N, ?_, (o1.trans (Out.of_below bV (F := fun g => g = q)) fun g e => .inl e).trans o2 ?_⟩⟩
      · rintro g (e | e)
        · rcases f2 g e with e | e
          · exact f1 g e
          · exact .inr (by omega)
        · exact .inr (by omega)
      · rintro g (e | e)
        · exact f1 g e
        · exact .inr (by omega)
  clear HM
  go_enter Tryz.func19, Tryz.ntmps19
  go_wp2_with fail
  refine WR.out.mono ?_
  rintro E w1 ⟨rfl, F1, k1, o1, f1⟩
  obtain ⟨V, hV, OP⟩ := X.out w1 o1 F1 k1 f1
  clear WR X k1 o1 f1
  rcases HU.out with rfl | rfl
  all_goals
    go_wp2_with fail
    refine (CK.out _).mono ?_
    rintro E w2 ⟨rfl, rfl⟩
    clear CK
    go_wp2_with fail
    refine OP.out.mono ?_
    rintro E w3 ⟨rfl, p, F, X3⟩
    clear OP
    go_wp2
    go_ret2
    exact ⟨_, p, F, rfl, X3⟩

end Go.Proofs.YtajlhdmnincehaaGreatDoor
