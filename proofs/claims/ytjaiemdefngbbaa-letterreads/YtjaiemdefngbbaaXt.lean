/- The contracts of the document's Check: shipped, Check. -/
import Derived.Test.YtjaiemdefngbbaaXs
namespace Go.Proofs.Ytjaiemdefngbbaa
open Go.RowKit
set_option linter.unusedVariables false

theorem Try.eqlF' (a b c d : Int) (w : World) : (binOp .eql 93 (.agg #[.int .i64 a, .int .i64 b]) (.agg #[.int .i64 c, .int .i64 d])).run Try.prog w = .ok (.bool ((a == c) && (b == d))) w := by
  rw [run_eql_struct, run_equalIn_agg w 9999 93 _ _ (by kernel_rfl) (by kernel_rfl)]
  unfold Program.fieldsOf
  rw [Try.underlying93]
  simp [Op.eqFields, go_sem, Try.underlying23, Try.underlying3]
  by_cases h1 : a = c <;> by_cases h2 : b = d <;> simp [h1, h2]

set_option maxRecDepth 100000 in
set_option maxHeartbeats 2000000 in
theorem shippedR_any (m : Mw) (ans : Bool) (w : World) (hi : IsM w m) (hf : FitM m) (h : Yes ans (Mm.Shp m.m)) :
    Calls Try.prog 37 #[mv m] w fun E w' => E = .returned (.bool ans) ∧ Below w.heap.size w w' := by
  have HD : Hid (Yes ans (Mm.Shp m.m)) := hide h
  have NO : Hid (¬ ShpP m → ans = false) := hide fun k => HD.out.no fun p => k (shp_iff.1 p).1
  have YE : Hid (ShpP m → Yes ans (PlnP (pl2 m))) := hide fun k => HD.out.trans (shp_iff.trans ⟨fun p => p.2, fun p => ⟨k, p⟩⟩)
  obtain ⟨ao, cap, hvs, _, _⟩ := hi.s.shape
  obtain ⟨ao2, cap2, hvc, _, _⟩ := hi.c.1.shape
  rw [mv_eq hvs hvc]
  obtain ⟨w1, hw1, sz1, bel1, hA⟩ := newm' w m hvs hvc
  have A1 : Hid (∀ W, Below w1.heap.size w1 W → Ei W w.heap.size (.int .i64 m.k) (.int .i64 m.e) (.int .u8 m.r) (.int .i64 m.n) (.slice ao m.ss.length cap) (.int .i64 m.f) (.int .i64 m.p) (.slice ao2 m.cs.length cap2)) := hide fun W hb => (hA.below hb).ei' hvs hvc
  obtain ⟨c0, c1, c2, c3, c4, c5, c6, c7⟩ := hA.ei' hvs hvc
  have HI := hide hi
  have hl := hf.lc
  have HF := hide hf.fc
  have ff := hf.f
  have X := hide (fun (W : World) (k : IsC W m.vc m.cs) => cfolR_any m.p (m.f - 1) m.vc m.cs W k HF.out hl)
  have XP := hide (fun (an : Bool) (W : World) (k : IsM W (pl2 m)) (hy : Yes an (PlnP (pl2 m))) => plain_any (pl2 m) an W k hy)
  rw [mv_eq (m := pl2 m) (a := .slice ao m.ss.length cap) (b := .slice none 0 0) hvs rfl] at XP
  have C := hide (isC_cells hi.c)
  have I1 : Hid (∀ W, Below w1.heap.size w1 W → IsC W m.vc m.cs) := hide fun W hb => (HI.out.c.below bel1).below hb
  rw [hvc] at X C I1
  clear h hA hi hf hvs hvc
  generalize hn : m.cs.length = n at *
  have HN := hide hn
  clear hn
  go_enter Try.func37, Try.ntmps37
  by_cases h1 : m.f < 1
  · obtain rfl := NO.out fun k => by have := k.1; omega
    go_wp2
    go_ret
    exact ⟨rfl, bel1⟩
  by_cases h2 : 1048576 < m.f
  · obtain rfl := NO.out fun k => by have := k.2.1; omega
    go_wp2
    go_ret
    exact ⟨rfl, bel1⟩
  by_cases h3 : m.p < 0
  · obtain rfl := NO.out fun k => by have := k.2.2.1; omega
    go_wp2
    go_ret
    exact ⟨rfl, bel1⟩
  by_cases h4 : m.e < m.p
  · obtain rfl := NO.out fun k => by have := k.2.2.2.1; omega
    go_wp2
    go_ret
    exact ⟨rfl, bel1⟩
  rcases beq_two m.p m.f 0 1 with ⟨hbb, bb, q1, q2⟩ | ⟨hbb, bb, q1, q2⟩
  rotate_left
  · obtain rfl := NO.out fun k => hbb k.2.2.2.2.1
    clear hbb
    cases bb
    · have q3 : (m.f == 1) = true := q2
      clear q2
      go_wp2
      go_ret
      exact ⟨rfl, bel1⟩
    · have q3 : (m.f == 1) = false := q2
      clear q2
      go_wp2
      go_ret
      exact ⟨rfl, bel1⟩
  have HB := hide hbb
  have hbn : (bb != bb) = false := by simp
  clear hbb
  by_cases h5 : 4 < n
  · obtain rfl := NO.out fun k => by have := k.2.2.2.2.2.1; have := HN.out; omega
    clear X XP
    have h5' : (4 : Int) < n := by omega
    go_wp2
    go_ret
    exact ⟨rfl, bel1⟩
  have h5' : ¬ (4 : Int) < n := by omega
  go_wp2
  go_loopw [3] (fun i wr => ∃ (k : Nat), k ≤ n ∧ i = .int .i64 k ∧ Hid (∀ (j : Nat) (c : Cw), j < k → m.cs[j]? = some c → c.e ≤ m.e) ∧ ∃ mm, wr = w1.drewN mm) (fun i _ => n - (intOf i).toNat)
  case atStart => exact ⟨0, by omega, rfl, hide (fun j c hj => by omega), 0, rfl⟩
  case round =>
    obtain ⟨k, hk, rfl, HT, mm, rfl⟩ := hrel
    by_cases hlt : k < n
    · obtain ⟨b1, o1, x1, hv1, hB1, hc1⟩ := C.out (by have := HN.out; omega)
      simp only [Value.slice.injEq, true_and] at hv1
      obtain ⟨rfl, rfl⟩ := hv1
      obtain ⟨s, hs⟩ := at_of (l := m.cs) (k := k) (by have := HN.out; omega)
      obtain ⟨g0, _, _⟩ := hc1 k s hs
      have d0 := (bel1.cell (p := ⟨b1, o1 + k * 3, none⟩) hB1).trans g0
      have hlt' : (k : Int) < n := by omega
      have HS := hide hs
      clear hs hc1 g0
      by_cases hx : s.e ≤ m.e
      · have hx' : ¬ m.e < s.e := by omega
        have HT2 : Hid (∀ (j : Nat) (c : Cw), j < k + 1 → m.cs[j]? = some c → c.e ≤ m.e) := hide fun j c hj hc => by
          rcases Nat.lt_or_ge j k with g | g
          · exact HT.out j c g hc
          · have : j = k := by omega
            subst this
            rw [HS.out] at hc
            have := Option.some.inj hc
            subst this
            omega
        clear hx
        go_wp2
        have hx' : ¬ m.e < s.e := by omega
        go_quiet (fail)
        go_wp2
        go_roundw
        case rel => exact ⟨k + 1, by omega, by go_num, HT2, _, rfl⟩
        case measure => simp [intOf]; omega
      · obtain rfl := NO.out fun p => hx (p.2.2.2.2.2.2.1 s.c (by unfold cvs; exact List.mem_map_of_mem (List.mem_of_getElem? HS.out)))
        have hx' : m.e < s.e := by omega
        clear hx
        go_wp2
        have hx' : m.e < s.e := by omega
        go_quiet (fail)
        go_wp2
        go_ret
        exact ⟨rfl, below_drewN (below_drewN bel1 _) _⟩
    · have hlt' : ¬ (k : Int) < n := by omega
      have HALL : Hid (∀ c ∈ cvs m.cs, c.e ≤ m.e) := hide fun c hc => by
        unfold cvs at hc
        obtain ⟨d, hd, rfl⟩ := List.mem_map.1 hc
        obtain ⟨j, hj⟩ := List.getElem?_of_mem hd
        exact HT.out j d (by have := (List.getElem?_eq_some_iff.1 hj).1; have := HN.out; omega) hj
      have bel2 : Below w1.heap.size w1 (w1.drewN mm) := below_drewN (Below.refl _ _) mm
      have bel0 : Below w.heap.size w (w1.drewN mm) := below_drewN bel1 mm
      go_wp2_with fail
      refine (X.out _ (I1.out _ bel2)).mono ?_
      rintro E w3 ⟨rfl, bel3⟩
      have sz3 := bel3.size
      have bel13 : Below w1.heap.size w1 w3 := bel2.trans (bel3.mono (by simp))
      have bel03 := bel1.trans (bel13.mono (by omega))
      have sz3 : w.heap.size + 1 ≤ w3.heap.size := by have : (w1.drewN mm).heap.size = w1.heap.size := rfl; omega
      clear c0 c1 c2 c3 c4 c5 c6 c7 hw1 X
      obtain ⟨c0, c1, c2, c3, c4, c5, c6, c7⟩ := A1.out _ bel13
      have hft := fol_two (cvs m.cs) m.p (m.f - 1)
      have hgd := Try.guardF
      unfold flv
      rcases hft with ⟨hg, hfo⟩ | ⟨hg, hfo⟩
      rotate_left
      · obtain rfl := NO.out fun k => hg k.2.2.2.2.2.2.2
        have hnq := Try.eqlF' (Cm.fol m.p (m.f - 1) 0 (cvs m.cs)).1 (Cm.fol m.p (m.f - 1) 0 (cvs m.cs)).2 0 0
        rw [show ((Cm.fol m.p (m.f - 1) 0 (cvs m.cs)).1 == 0 && (Cm.fol m.p (m.f - 1) 0 (cvs m.cs)).2 == 0) = false by simp [hfo]] at hnq
        generalize (Cm.fol m.p (m.f - 1) 0 (cvs m.cs)).1 = x1 at *
        generalize (Cm.fol m.p (m.f - 1) 0 (cvs m.cs)).2 = x2 at *
        clear hg hfo
        go_wp2
        go_ret
        exact ⟨rfl, bel03⟩
      rw [hfo]
      have hnq := Try.eqlF' 0 0 0 0
      rw [show ((0 : Int) == 0 && (0 : Int) == 0) = true from rfl] at hnq
      have HY := hide (YE.out ⟨by omega, by omega, by omega, by omega, HB.out, by have := HN.out; omega, HALL.out, hg⟩)
      clear hfo hg
      go_wp2_with fail
      refine (XP.out ans _ (pl2_is (HI.out.below bel03)) HY.out).mono ?_
      rintro E w4 ⟨rfl, bel4⟩
      have bel04 := bel03.trans (bel4.mono (by omega))
      go_wp2
      go_ret
      exact ⟨rfl, bel04⟩

set_option maxRecDepth 100000 in
set_option maxHeartbeats 2000000 in
theorem mcheckR_any (m : Mw) (c : Int) (w : World) (hi : IsM w m) (hf : FitM m) (hc : Mm.Ck m.m c) :
    Calls Try.prog 16 #[mv m] w fun E w' => E = .returned (.int .i64 c) ∧ Below w.heap.size w w' := by
  have HC := hide hc
  have NO : Hid (¬ Mm.Ok m.m → c = 2) := hide fun h => by
    rcases HC.out with ⟨_, k⟩ | ⟨e, _⟩
    · exact absurd k h
    · exact e
  have YE : Hid (Mm.Ok m.m → c = 0) := hide fun h => by
    rcases HC.out with ⟨e, _⟩ | ⟨_, k⟩
    · exact e
    · exact absurd h k
  obtain ⟨ao, cap, hvs, _, _⟩ := hi.s.shape
  obtain ⟨ao2, cap2, hvc, _, _⟩ := hi.c.1.shape
  rw [mv_eq hvs hvc]
  obtain ⟨w1, hw1, sz1, bel1, hA⟩ := newm' w m hvs hvc
  have A1 : Hid (∀ W, Below w1.heap.size w1 W → Ei W w.heap.size (.int .i64 m.k) (.int .i64 m.e) (.int .u8 m.r) (.int .i64 m.n) (.slice ao m.ss.length cap) (.int .i64 m.f) (.int .i64 m.p) (.slice ao2 m.cs.length cap2)) := hide fun W hb => (hA.below hb).ei' hvs hvc
  obtain ⟨c0, c1, c2, c3, c4, c5, c6, c7⟩ := hA.ei' hvs hvc
  have HI := hide hi
  have HF := hide hf
  have XV : Hid (mv m = .agg #[.int .i64 m.k, .int .i64 m.e, .int .u8 m.r, .int .i64 m.n, .slice ao m.ss.length cap, .int .i64 m.f, .int .i64 m.p, .slice ao2 m.cs.length cap2]) := hide (mv_eq hvs hvc)
  have XP := hide (fun (an : Bool) (W : World) (k : IsM W (pl3 m)) (hy : Yes an (PlnP (pl3 m))) => plain_any (pl3 m) an W k hy)
  rw [mv_eq (m := pl3 m) (a := .slice ao m.ss.length cap) (b := .slice ao2 m.cs.length cap2) hvs hvc] at XP
  clear hc hA hi hf hvs hvc
  go_enter Try.func16, Try.ntmps16
  by_cases k1 : m.k = 1
  · have k1' : (m.k == 1) = true := by simp [k1]
    obtain ⟨ans, hy⟩ := yes_of (HelQ m ∧ PlnP (pl1 m))
    have X := helloR_any m ans w1 (HI.out.below bel1) HF.out hy
    rw [XV.out] at X
    have HX := hide X
    have HK : Hid (Mm.Ok m.m ↔ 1 ≤ m.e ∧ m.e ≤ 1048576 ∧ ans = true) := hide (by
      constructor
      · intro h
        have h1 : 1 ≤ m.e := h.1
        refine ⟨h.1, h.2.1, hy.2 ((hel_iff (by omega)).1 ?_)⟩
        rcases h.2.2 with ⟨_, k⟩ | ⟨k, _⟩ | ⟨k, _⟩
        · exact k
        · have : m.k = 2 := k; omega
        · have : m.k = 3 := k; omega
      · rintro ⟨h1, h2, h3⟩
        exact ⟨h1, h2, .inl ⟨k1, (hel_iff (by omega)).2 (hy.1 h3)⟩⟩)
    clear X hy k1
    go_wp2_with fail
    refine HX.out.mono ?_
    rintro E w2 ⟨rfl, bel2⟩
    have bel02 := bel1.trans (bel2.mono (by omega))
    clear c0 c1 c2 c3 c4 c5 c6 c7 hw1
    obtain ⟨c0, c1, c2, c3, c4, c5, c6, c7⟩ := A1.out _ bel2
    cases ans
    · obtain rfl := NO.out fun k => by have := (HK.out.1 k).2.2; simp at this
      go_wp2
      go_ret
      exact ⟨rfl, bel02⟩
    · by_cases h1 : m.e < 1
      · obtain rfl := NO.out fun k => by have := (HK.out.1 k).1; omega
        go_wp2
        go_ret
        exact ⟨rfl, bel02⟩
      · by_cases h2 : 1048576 < m.e
        · obtain rfl := NO.out fun k => by have := (HK.out.1 k).2.1; omega
          go_wp2
          go_ret
          exact ⟨rfl, bel02⟩
        · obtain rfl := YE.out (HK.out.2 ⟨by omega, by omega, rfl⟩)
          go_wp2
          go_ret
          exact ⟨rfl, bel02⟩
  have k1' : (m.k == 1) = false := by simpa using k1
  by_cases k2 : m.k = 2
  · have k2' : (m.k == 2) = true := by simp [k2]
    obtain ⟨ans, hy⟩ := yes_of (Mm.Shp m.m)
    have X := shippedR_any m ans w1 (HI.out.below bel1) HF.out hy
    rw [XV.out] at X
    have HX := hide X
    have HK : Hid (Mm.Ok m.m ↔ 1 ≤ m.e ∧ m.e ≤ 1048576 ∧ ans = true) := hide (by
      constructor
      · intro h
        refine ⟨h.1, h.2.1, hy.2 ?_⟩
        rcases h.2.2 with ⟨k, _⟩ | ⟨_, k⟩ | ⟨k, _⟩
        · have : m.k = 1 := k; omega
        · exact k
        · have : m.k = 3 := k; omega
      · rintro ⟨h1, h2, h3⟩
        exact ⟨h1, h2, .inr (.inl ⟨k2, hy.1 h3⟩)⟩)
    clear X hy k1 k2
    go_wp2_with fail
    refine HX.out.mono ?_
    rintro E w2 ⟨rfl, bel2⟩
    have bel02 := bel1.trans (bel2.mono (by omega))
    clear c0 c1 c2 c3 c4 c5 c6 c7 hw1
    obtain ⟨c0, c1, c2, c3, c4, c5, c6, c7⟩ := A1.out _ bel2
    cases ans
    · obtain rfl := NO.out fun k => by have := (HK.out.1 k).2.2; simp at this
      go_wp2
      go_ret
      exact ⟨rfl, bel02⟩
    · by_cases h1 : m.e < 1
      · obtain rfl := NO.out fun k => by have := (HK.out.1 k).1; omega
        go_wp2
        go_ret
        exact ⟨rfl, bel02⟩
      · by_cases h2 : 1048576 < m.e
        · obtain rfl := NO.out fun k => by have := (HK.out.1 k).2.1; omega
          go_wp2
          go_ret
          exact ⟨rfl, bel02⟩
        · obtain rfl := YE.out (HK.out.2 ⟨by omega, by omega, rfl⟩)
          go_wp2
          go_ret
          exact ⟨rfl, bel02⟩
  have k2' : (m.k == 2) = false := by simpa using k2
  by_cases k3 : m.k = 3
  · have k3' : (m.k == 3) = true := by simp [k3]
    by_cases p1 : 0 ≤ m.n
    · by_cases p2 : m.n ≤ 1048576
      · obtain ⟨ans, hy⟩ := yes_of (PlnP (pl3 m))
        have HX := hide (XP.out ans w1 (pl3_is (HI.out.below bel1)) hy)
        have HK : Hid (Mm.Ok m.m ↔ 1 ≤ m.e ∧ m.e ≤ 1048576 ∧ ans = true) := hide (by
          constructor
          · intro h
            refine ⟨h.1, h.2.1, hy.2 ?_⟩
            rcases h.2.2 with ⟨k, _⟩ | ⟨k, _⟩ | ⟨_, k⟩
            · have : m.k = 1 := k; omega
            · have : m.k = 2 := k; omega
            · exact (ack_iff.1 k).2
          · rintro ⟨h1, h2, h3⟩
            exact ⟨h1, h2, .inr (.inr ⟨k3, ack_iff.2 ⟨⟨p1, p2⟩, hy.1 h3⟩⟩)⟩)
        clear hy k1 k2 k3
        go_wp2_with fail
        refine HX.out.mono ?_
        rintro E w2 ⟨rfl, bel2⟩
        have bel02 := bel1.trans (bel2.mono (by omega))
        clear c0 c1 c2 c3 c4 c5 c6 c7 hw1
        obtain ⟨c0, c1, c2, c3, c4, c5, c6, c7⟩ := A1.out _ bel2
        cases ans
        · obtain rfl := NO.out fun k => by have := (HK.out.1 k).2.2; simp at this
          go_wp2
          go_ret
          exact ⟨rfl, bel02⟩
        · by_cases h1 : m.e < 1
          · obtain rfl := NO.out fun k => by have := (HK.out.1 k).1; omega
            go_wp2
            go_ret
            exact ⟨rfl, bel02⟩
          · by_cases h2 : 1048576 < m.e
            · obtain rfl := NO.out fun k => by have := (HK.out.1 k).2.1; omega
              go_wp2
              go_ret
              exact ⟨rfl, bel02⟩
            · obtain rfl := YE.out (HK.out.2 ⟨by omega, by omega, rfl⟩)
              go_wp2
              go_ret
              exact ⟨rfl, bel02⟩
      · obtain rfl := NO.out fun h => by
          rcases h.2.2 with ⟨k, _⟩ | ⟨k, _⟩ | ⟨_, k⟩
          · have : m.k = 1 := k; omega
          · have : m.k = 2 := k; omega
          · exact p2 (ack_iff.1 k).1.2
        have p3 : (1048576 : Int) < m.n := by omega
        clear k1 k2 k3
        go_wp2
        go_ret
        exact ⟨rfl, bel1⟩
    · obtain rfl := NO.out fun h => by
        rcases h.2.2 with ⟨k, _⟩ | ⟨k, _⟩ | ⟨_, k⟩
        · have : m.k = 1 := k; omega
        · have : m.k = 2 := k; omega
        · exact p1 (ack_iff.1 k).1.1
      have p3 : m.n < 0 := by omega
      clear k1 k2 k3
      go_wp2
      go_ret
      exact ⟨rfl, bel1⟩
  have k3' : (m.k == 3) = false := by simpa using k3
  obtain rfl := NO.out fun h => by
    rcases h.2.2 with ⟨k, _⟩ | ⟨k, _⟩ | ⟨k, _⟩
    · exact k1 k
    · exact k2 k
    · exact k3 k
  clear k1 k2 k3
  go_wp2
  go_ret
  exact ⟨rfl, bel1⟩

end Go.Proofs.Ytjaiemdefngbbaa
