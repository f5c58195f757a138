/- The walk of DiskFuse. -/
import Derived.Test.YteklbnonikccaaaAo
namespace Go.Proofs.Yteklbnonikccaaa
open Go.RowKit Go.Shelf
set_option linter.unusedVariables false

theorem Try.enters10 : ∀ args w, (callFunc 10 args).run Try.prog w = .ok (.enter 10 args) w := enters_of Try.func10 (by kernel_rfl) rfl

theorem Try.enters17 : ∀ args w, (callFunc 17 args).run Try.prog w = .ok (.enter 17 args) w := enters_of Try.func17 (by kernel_rfl) rfl

/-- Behind a call that may do raw steps. -/
def OpPost (base m k : Nat) (st : Dm.Ds) (wr : World) (v : Value) (w' : World) : Prop := ∃ r : Int × Dm.Ds, v = .int .i64 r.1 ∧ FP m st r ∧ Big (400 * (k + 1)) (8 * (k + 1)) r.2 ∧ Dsk base base w' r.2 ∧ Below base wr w'

set_option maxRecDepth 100000 in
set_option maxHeartbeats 16000000 in
theorem diskFuse_walk (v : Value) (l : List Aw) (n : Int) (w : World) (h : IsA w v l) (hl : l.length * 56 ≤ 140737488351232) (hn : (Lit.int .i64 n).wf = true) :
    Calls Try.prog 7 #[v, .int .i64 n] w fun E w' => E = .returned (.bool true) ∧ Below w.heap.size w w' := by
  have hn64 : I64 n := by
    have := range_i64 (zs := [n]) (by simpa using hn) 0
    simp at this
    exact ⟨by omega, by omega⟩
  obtain ⟨hp0, hp1⟩ := pk_lt n 1001 (by omega)
  obtain ⟨m, hm⟩ : ∃ m : Nat, pk n 1001 = m := ⟨(pk n 1001).toNat, by omega⟩
  rw [hm] at hp0 hp1
  have PK := hide (fun w => pickx_any n 1001 w (by omega) (by omega) hn64)
  rw [hm] at PK
  obtain ⟨ao, cap, hv, hcap, hcm⟩ := h.1.shape
  have H := hide h
  subst hv
  clear hn hn64 hm h
  go_enter Try.func7, Try.ntmps7
  go_wp2_with fail
  refine (lives_any w).mono ?_
  rintro E w1 ⟨rfl, b1⟩
  have s1 := b1.size
  have H1 := hide (H.out.below b1)
  go_wp2_with fail
  refine (small_any _ l w1 H1.out (by omega)).mono ?_
  rintro E w1' ⟨rfl, rfl⟩
  cases hsm : smallA l
  · go_wp2
    go_ret
    exact ⟨rfl, b1⟩
  · obtain ⟨hl100, hl400⟩ := smallA_len hsm
    clear hsm
    go_wp2_with fail
    refine (PK.out w1).mono ?_
    rintro E w1' ⟨rfl, rfl⟩
    go_wp2_with fail
    refine (dnew w1).mono ?_
    rintro E w2 ⟨rfl, D2, b2⟩
    have s2 := b2.size
    have F1 : (Dm.fuse Dm.new m).1 = 0 := by
      have : ¬ (m : Int) < 0 := by omega
      simp [Dm.fuse, Dm.new, this]
    have F2 : FI m (Dm.fuse Dm.new m).2 := by
      have : ¬ (m : Int) < 0 := by omega
      simp [Dm.fuse, Dm.new, this, FI]
    have F3 : Big 0 0 (Dm.fuse Dm.new m).2 := big_fuse big_new m (by omega)
    go_wp2_with fail
    refine (dfuse D2 s2 m).mono ?_
    rintro E w3 ⟨rfl, D3, b3⟩
    rw [F1]
    have c3 : Below w1.heap.size w1 w3 := b2.trans b3
    have I3 : Hid (Dsk w1.heap.size w1.heap.size w3 (Dm.fuse Dm.new m).2 ∧ FI m (Dm.fuse Dm.new m).2 ∧ Big (400 * 0) (8 * 0) (Dm.fuse Dm.new m).2) := hide ⟨D3, F2, F3⟩
    clear F1 F2 F3 D2 D3
    go_wp2
    go_loopw [6, 7, 8] (fun iv _ _ wr => ∃ k : Nat, k ≤ l.length ∧ iv = .int .i64 k ∧ Below w1.heap.size w1 wr ∧ ∃ st, Hid (Dsk w1.heap.size w1.heap.size wr st ∧ FI m st ∧ Big (400 * k) (8 * k) st)) (fun iv _ _ _ => l.length - (intOf iv).toNat)
    case atStart => exact ⟨0, by omega, rfl, c3, _, I3⟩
    case round =>
      obtain ⟨k, hk, rfl, bel, st, I⟩ := hrel
      have sz := bel.size
      by_cases hlt : k < l.length
      · obtain ⟨D, hFI, hBig⟩ := I.out
        have HD0 := hide D
        have HAr := hide (H1.out.below bel)
        obtain ⟨b, off, cq, hvx, _, _, hB, hcell⟩ := HAr.out.full (by omega)
        simp only [Value.slice.injEq, true_and] at hvx
        obtain ⟨rfl, rfl⟩ := hvx
        obtain ⟨a, ha⟩ : ∃ a, l[k]? = some a := ⟨l[k], by rw [List.getElem?_eq_getElem]⟩
        obtain ⟨e0, e1, e2, e3, e4⟩ := hcell k a ha
        have hmem := List.mem_of_getElem? ha
        have hbs := hl400 a hmem
        have aok := HAr.out.2 a hmem
        have aok1 := H1.out.2 a hmem
        obtain ⟨av, ac, hav, _, _⟩ := aok.1.shape
        have hlt' : (k : Int) < l.length := by omega
        have hk0 : (0 : Int) ≤ (k : Int) := by omega
        have bd : Below wr.heap.size wr wr.drew := below_drewN (Below.refl _ _) 1
        have HB1 : Big 100000000 900000 st := hBig.mono (by omega) (by omega)
        have hc7 := cnt_small hbs
        have WR : Hid (Calls Try.prog 10 #[.pointer (some ⟨w1.heap.size, 0, none⟩), .int .i64 a.f, a.v] wr.drew fun E w' => ∃ v, E = .returned v ∧ OpPost w1.heap.size m k st wr v w') := hide (by
          refine (dwrite_old (D.below bd) sz HB1 a.f a.v a.bs (aok.1.below bd) (by omega) fun h0 b hb => aok1.1.lt h0 b hb).mono ?_
          rintro E w' ⟨rfl, d1, d2⟩
          exact ⟨_, rfl, _, rfl, fp_write hFI a.f a.bs, (big_write hBig a.f a.bs).mono (by omega) (by omega), d1, (bd.mono sz).trans d2⟩)
        have CU : Hid (Calls Try.prog 17 #[.pointer (some ⟨w1.heap.size, 0, none⟩), .int .i64 a.f, .int .i64 a.n] wr.drew fun E w' => ∃ v, E = .returned v ∧ OpPost w1.heap.size m k st wr v w') := hide (by
          refine (dcut (D.below bd) sz HB1 a.f a.n).mono ?_
          rintro E w' ⟨rfl, d1, d2⟩
          exact ⟨_, rfl, _, rfl, fp_cut hFI a.f a.n, (big_cut hBig a.f a.n).mono (by omega) (by omega), d1, (bd.mono sz).trans d2⟩)
        have SY : Hid (Calls Try.prog 14 #[.pointer (some ⟨w1.heap.size, 0, none⟩)] wr fun E w' => ∃ v, E = .returned v ∧ OpPost w1.heap.size m k st wr v w') := hide (by
          refine (dsync D sz HB1).mono ?_
          rintro E w' ⟨rfl, d1, d2⟩
          exact ⟨_, rfl, _, rfl, fp_sync hFI, (big_sync hBig).mono (by omega) (by omega), d1, d2⟩)
        have PA := hide (fun w => pickx_any a.k 3 w (by omega) (by omega) aok.2.1)
        obtain ⟨q0, q1⟩ := pk_lt a.k 3 (by omega)
        rw [hav] at e4 WR
        clear hcell ha aok aok1 hav hmem D hFI hBig HB1 bd HAr hB I
        generalize pk a.k 3 = q at PA q0 q1
        go_wp2_with fail
        refine (dsteps HD0.out).mono ?_
        rintro E w' ⟨rfl, rfl⟩
        go_wp2_with fail
        refine (PA.out wr).mono ?_
        rintro E w' ⟨rfl, rfl⟩
        rcases (show q = 0 ∨ q = 1 ∨ q = 2 by omega) with rfl | rfl | rfl
        · go_wp2_with fail
          go_region_law (refine call_at rfl 10 #[.tmp 40, .tmp 45, .tmp 50] #[23, 3, 27] rfl Try.enters10 #[.pointer (some ⟨w1.heap.size, 0, none⟩), .int .i64 a.f, .slice av a.bs.length ac] (by first | rfl | (simp [Act.eval]; done)) WR.out ?_; intro vn wn J; have J := hide J)
          all_goals
            obtain ⟨⟨e, st'⟩, hve, hFP, hBig, D', bw⟩ := J.out
            subst hve
            have c' : Below w1.heap.size w1 wn := bel.trans bw
            have hle : ¬ (m : Int) < (st'.count : Int) := by have := hFP.1.le; simp only at this; omega
            have I' : Hid (Dsk w1.heap.size w1.heap.size wn st' ∧ FI m st' ∧ Big (400 * (k + 1)) (8 * (k + 1)) st') := hide ⟨D', hFP.1, hBig⟩
            have HD := hide D'
            rcases hFP with ⟨hFI, ⟨he, hon⟩ | ⟨he, hon, hcnt⟩ | ⟨he, hon⟩⟩
            all_goals
              simp only at he hon
              subst he
              have HON := hide hon
              have hFI' := hide hFI
              clear hFI D' hBig bw hon
            · go_wp2_with (first
                | (go_at_call 16; refine (dsteps HD.out).mono ?_; rintro E w' ⟨rfl, rfl⟩)
                | (go_at_call 15; refine (don HD.out).mono ?_; rintro E w' ⟨rfl, rfl⟩; rw [HON.out]))
              go_roundw
              case rel => exact ⟨k + 1, by omega, by go_num, c', _, I'⟩
              case measure => simp [intOf]; omega
            · simp only at hcnt
              have hce : (st'.count : Int) = (st.count : Int) := by rw [hcnt]
              clear hcnt
              go_wp2_with (first
                | (go_at_call 16; refine (dsteps HD.out).mono ?_; rintro E w' ⟨rfl, rfl⟩)
                | (go_at_call 15; refine (don HD.out).mono ?_; rintro E w' ⟨rfl, rfl⟩; rw [HON.out]))
              go_roundw
              case rel => exact ⟨k + 1, by omega, by go_num, c', _, I'⟩
              case measure => simp [intOf]; omega
            · have hcm' : st'.count = m := by
                obtain ⟨_, ⟨h1, _⟩ | ⟨_, h2⟩⟩ := hFI'.out
                · rw [HON.out] at h1; cases h1
                · exact h2
              have hce : (st'.count : Int) = (m : Int) := by rw [hcm']
              clear hcm'
              go_wp2_with (first
                | (go_at_call 16; refine (dsteps HD.out).mono ?_; rintro E w' ⟨rfl, rfl⟩)
                | (go_at_call 15; refine (don HD.out).mono ?_; rintro E w' ⟨rfl, rfl⟩; rw [HON.out]))
              go_roundw
              case rel => exact ⟨k + 1, by omega, by go_num, c', _, I'⟩
              case measure => simp [intOf]; omega
        · go_wp2_with fail
          go_region_law (refine call_at rfl 17 #[.tmp 54, .tmp 59, .tmp 64] #[23, 3, 3] rfl Try.enters17 #[.pointer (some ⟨w1.heap.size, 0, none⟩), .int .i64 a.f, .int .i64 a.n] (by first | rfl | (simp [Act.eval]; done)) CU.out ?_; intro vn wn J; have J := hide J)
          all_goals
            obtain ⟨⟨e, st'⟩, hve, hFP, hBig, D', bw⟩ := J.out
            subst hve
            have c' : Below w1.heap.size w1 wn := bel.trans bw
            have hle : ¬ (m : Int) < (st'.count : Int) := by have := hFP.1.le; simp only at this; omega
            have I' : Hid (Dsk w1.heap.size w1.heap.size wn st' ∧ FI m st' ∧ Big (400 * (k + 1)) (8 * (k + 1)) st') := hide ⟨D', hFP.1, hBig⟩
            have HD := hide D'
            rcases hFP with ⟨hFI, ⟨he, hon⟩ | ⟨he, hon, hcnt⟩ | ⟨he, hon⟩⟩
            all_goals
              simp only at he hon
              subst he
              have HON := hide hon
              have hFI' := hide hFI
              clear hFI D' hBig bw hon
            · go_wp2_with (first
                | (go_at_call 16; refine (dsteps HD.out).mono ?_; rintro E w' ⟨rfl, rfl⟩)
                | (go_at_call 15; refine (don HD.out).mono ?_; rintro E w' ⟨rfl, rfl⟩; rw [HON.out]))
              go_roundw
              case rel => exact ⟨k + 1, by omega, by go_num, c', _, I'⟩
              case measure => simp [intOf]; omega
            · simp only at hcnt
              have hce : (st'.count : Int) = (st.count : Int) := by rw [hcnt]
              clear hcnt
              go_wp2_with (first
                | (go_at_call 16; refine (dsteps HD.out).mono ?_; rintro E w' ⟨rfl, rfl⟩)
                | (go_at_call 15; refine (don HD.out).mono ?_; rintro E w' ⟨rfl, rfl⟩; rw [HON.out]))
              go_roundw
              case rel => exact ⟨k + 1, by omega, by go_num, c', _, I'⟩
              case measure => simp [intOf]; omega
            · have hcm' : st'.count = m := by
                obtain ⟨_, ⟨h1, _⟩ | ⟨_, h2⟩⟩ := hFI'.out
                · rw [HON.out] at h1; cases h1
                · exact h2
              have hce : (st'.count : Int) = (m : Int) := by rw [hcm']
              clear hcm'
              go_wp2_with (first
                | (go_at_call 16; refine (dsteps HD.out).mono ?_; rintro E w' ⟨rfl, rfl⟩)
                | (go_at_call 15; refine (don HD.out).mono ?_; rintro E w' ⟨rfl, rfl⟩; rw [HON.out]))
              go_roundw
              case rel => exact ⟨k + 1, by omega, by go_num, c', _, I'⟩
              case measure => simp [intOf]; omega
        · go_wp2_with fail
          refine SY.out.mono ?_
          rintro E wn ⟨vn, rfl, J⟩
          have J := hide J
          all_goals
            obtain ⟨⟨e, st'⟩, hve, hFP, hBig, D', bw⟩ := J.out
            subst hve
            have c' : Below w1.heap.size w1 wn := bel.trans bw
            have hle : ¬ (m : Int) < (st'.count : Int) := by have := hFP.1.le; simp only at this; omega
            have I' : Hid (Dsk w1.heap.size w1.heap.size wn st' ∧ FI m st' ∧ Big (400 * (k + 1)) (8 * (k + 1)) st') := hide ⟨D', hFP.1, hBig⟩
            have HD := hide D'
            rcases hFP with ⟨hFI, ⟨he, hon⟩ | ⟨he, hon, hcnt⟩ | ⟨he, hon⟩⟩
            all_goals
              simp only at he hon
              subst he
              have HON := hide hon
              have hFI' := hide hFI
              clear hFI D' hBig bw hon
            · go_wp2_with (first
                | (go_at_call 16; refine (dsteps HD.out).mono ?_; rintro E w' ⟨rfl, rfl⟩)
                | (go_at_call 15; refine (don HD.out).mono ?_; rintro E w' ⟨rfl, rfl⟩; rw [HON.out]))
              go_roundw
              case rel => exact ⟨k + 1, by omega, by go_num, c', _, I'⟩
              case measure => simp [intOf]; omega
            · simp only at hcnt
              have hce : (st'.count : Int) = (st.count : Int) := by rw [hcnt]
              clear hcnt
              go_wp2_with (first
                | (go_at_call 16; refine (dsteps HD.out).mono ?_; rintro E w' ⟨rfl, rfl⟩)
                | (go_at_call 15; refine (don HD.out).mono ?_; rintro E w' ⟨rfl, rfl⟩; rw [HON.out]))
              go_roundw
              case rel => exact ⟨k + 1, by omega, by go_num, c', _, I'⟩
              case measure => simp [intOf]; omega
            · have hcm' : st'.count = m := by
                obtain ⟨_, ⟨h1, _⟩ | ⟨_, h2⟩⟩ := hFI'.out
                · rw [HON.out] at h1; cases h1
                · exact h2
              have hce : (st'.count : Int) = (m : Int) := by rw [hcm']
              clear hcm'
              go_wp2_with (first
                | (go_at_call 16; refine (dsteps HD.out).mono ?_; rintro E w' ⟨rfl, rfl⟩)
                | (go_at_call 15; refine (don HD.out).mono ?_; rintro E w' ⟨rfl, rfl⟩; rw [HON.out]))
              go_roundw
              case rel => exact ⟨k + 1, by omega, by go_num, c', _, I'⟩
              case measure => simp [intOf]; omega
      · have hlt' : ¬ (k : Int) < l.length := by omega
        obtain ⟨D, hFI, hBig⟩ := I.out
        have HD0 := hide D
        have HB1 : Big 100000000 800000 st := hBig.mono (by omega) (by omega)
        cases hon : st.on
        · have h1 : (Dm.start st 0 0).1 = 0 := by simp [Dm.start, hon]
          have h2 : (Dm.start st 0 0).2.on = true := by simp [Dm.start, hon]
          have h3 : (Dm.start st 0 0).2.has = false := by simp [Dm.start, hon]
          have HB2 := big_start HB1 0 0
          have HS := hide (dstart D sz (HB1.mono (by omega) (by omega)) 0 0 (by omega))
          generalize Dm.start st 0 0 = r at h1 h2 h3 HB2 HS
          obtain ⟨e, st2⟩ := r
          simp only at h1 h2 h3 HB2 HS
          subst h1
          have HON := hide hon
          have Q := hide (And.intro h2 (And.intro h3 HB2))
          clear D hFI hBig HB1 hon h2 h3 HB2 I
          go_wp2_with fail
          refine (don HD0.out).mono ?_
          rintro E w' ⟨rfl, rfl⟩
          rw [HON.out]
          go_wp2_with fail
          refine HS.out.mono ?_
          rintro E wa ⟨rfl, Da, ba⟩
          have ca : Below w1.heap.size w1 wa := bel.trans ba
          have HDa := hide Da
          clear Da ba
          have IA : Hid (Dsk w1.heap.size w1.heap.size wa st2 ∧ st2.on = true ∧ st2.has = false ∧ Big 100000000 (800000 + 0) st2) := hide ⟨HDa.out, Q.out.1, Q.out.2.1, Q.out.2.2⟩
          clear HDa Q
          go_wp2
          go_loopw [9] (fun iv wq => ∃ k2 : Nat, k2 ≤ 3 ∧ iv = .int .i64 k2 ∧ Below w1.heap.size w1 wq ∧ ∃ sq, Hid (Dsk w1.heap.size w1.heap.size wq sq ∧ sq.on = true ∧ sq.has = false ∧ Big 100000000 (800000 + k2) sq) ∧ Hid (k2 = 0 ∨ sq.wait.length = 0)) (fun iv _ => 3 - (intOf iv).toNat)
          case atStart => exact ⟨0, by omega, rfl, ca, _, IA, hide (.inl rfl)⟩
          case round =>
            obtain ⟨k2, hk2, rfl, belq, sq, IQ, ZQ⟩ := hrel
            obtain ⟨Dq, onq, hasq, bigq⟩ := IQ.out
            have szq := belq.size
            by_cases hlt2 : k2 < 3
            · have hlt2' : (k2 : Int) < 3 := by omega
              obtain ⟨y1, y2, y3, y4⟩ := sync_free onq hasq
              have HSY := hide (dsync Dq szq (bigq.mono (by omega) (by omega)))
              have HBQ := hide ((big_sync bigq).mono (Nat.le_refl _) (show 800000 + k2 + 1 ≤ 800000 + (k2 + 1) by omega))
              generalize Dm.sync sq = r2 at y1 y2 y3 y4 HSY HBQ
              obtain ⟨e2', sr⟩ := r2
              simp only at y1 y2 y3 y4 HSY HBQ
              subst y1
              have YY := hide (And.intro y2 (And.intro y3 y4))
              clear y2 y3 y4 Dq onq hasq bigq IQ ZQ
              go_wp2_with fail
              refine HSY.out.mono ?_
              rintro E wz ⟨rfl, Dz, bz⟩
              have cz : Below w1.heap.size w1 wz := belq.trans bz
              have IZ : Hid (Dsk w1.heap.size w1.heap.size wz sr ∧ sr.on = true ∧ sr.has = false ∧ Big 100000000 (800000 + (k2 + 1)) sr) := hide ⟨Dz, YY.out.1, YY.out.2.1, HBQ.out⟩
              have ZZ : Hid (k2 + 1 = 0 ∨ sr.wait.length = 0) := hide (.inr YY.out.2.2)
              clear Dz bz YY
              go_wp2
              go_roundw
              case rel => exact ⟨k2 + 1, by omega, by go_num, cz, _, IZ, ZZ⟩
              case measure => simp [intOf]; omega
            · have hlt2' : ¬ (k2 : Int) < 3 := by omega
              have hz : sq.wait.length = 0 := by
                rcases ZQ.out with h | h
                · omega
                · exact h
              have HDq := hide Dq
              have HONQ := hide onq
              have HZ := hide hz
              clear Dq onq hasq bigq IQ ZQ hz
              have cq : Below w.heap.size w wr := b1.trans (belq.mono s1)
              go_wp2_with (first
                | (go_at_call 15; refine (don HDq.out).mono ?_; rintro E w' ⟨rfl, rfl⟩; rw [HONQ.out])
                | (go_at_call 18; refine (dpend HDq.out).mono ?_; rintro E w' ⟨rfl, rfl⟩; rw [HZ.out]))
              go_ret
              exact ⟨rfl, cq⟩
        · have h1 : (Dm.safe st).1 = 0 := by simp [Dm.safe, hon]
          have h2 : (Dm.safe st).2.on = true := by simp [Dm.safe, hon]
          have h3 : (Dm.safe st).2.has = false := by simp [Dm.safe, hon]
          have HB2 := big_safe HB1
          have HS := hide (dsafe D sz)
          generalize Dm.safe st = r at h1 h2 h3 HB2 HS
          obtain ⟨e, st2⟩ := r
          simp only at h1 h2 h3 HB2 HS
          subst h1
          have HON := hide hon
          have Q := hide (And.intro h2 (And.intro h3 HB2))
          clear D hFI hBig HB1 hon h2 h3 HB2 I
          go_wp2_with fail
          refine (don HD0.out).mono ?_
          rintro E w' ⟨rfl, rfl⟩
          rw [HON.out]
          go_wp2_with fail
          refine HS.out.mono ?_
          rintro E wa ⟨rfl, Da, ba⟩
          have ca : Below w1.heap.size w1 wa := bel.trans ba
          have HDa := hide Da
          clear Da ba
          have IA : Hid (Dsk w1.heap.size w1.heap.size wa st2 ∧ st2.on = true ∧ st2.has = false ∧ Big 100000000 (800000 + 0) st2) := hide ⟨HDa.out, Q.out.1, Q.out.2.1, Q.out.2.2⟩
          clear HDa Q
          go_wp2
          go_loopw [9] (fun iv wq => ∃ k2 : Nat, k2 ≤ 3 ∧ iv = .int .i64 k2 ∧ Below w1.heap.size w1 wq ∧ ∃ sq, Hid (Dsk w1.heap.size w1.heap.size wq sq ∧ sq.on = true ∧ sq.has = false ∧ Big 100000000 (800000 + k2) sq) ∧ Hid (k2 = 0 ∨ sq.wait.length = 0)) (fun iv _ => 3 - (intOf iv).toNat)
          case atStart => exact ⟨0, by omega, rfl, ca, _, IA, hide (.inl rfl)⟩
          case round =>
            obtain ⟨k2, hk2, rfl, belq, sq, IQ, ZQ⟩ := hrel
            obtain ⟨Dq, onq, hasq, bigq⟩ := IQ.out
            have szq := belq.size
            by_cases hlt2 : k2 < 3
            · have hlt2' : (k2 : Int) < 3 := by omega
              obtain ⟨y1, y2, y3, y4⟩ := sync_free onq hasq
              have HSY := hide (dsync Dq szq (bigq.mono (by omega) (by omega)))
              have HBQ := hide ((big_sync bigq).mono (Nat.le_refl _) (show 800000 + k2 + 1 ≤ 800000 + (k2 + 1) by omega))
              generalize Dm.sync sq = r2 at y1 y2 y3 y4 HSY HBQ
              obtain ⟨e2', sr⟩ := r2
              simp only at y1 y2 y3 y4 HSY HBQ
              subst y1
              have YY := hide (And.intro y2 (And.intro y3 y4))
              clear y2 y3 y4 Dq onq hasq bigq IQ ZQ
              go_wp2_with fail
              refine HSY.out.mono ?_
              rintro E wz ⟨rfl, Dz, bz⟩
              have cz : Below w1.heap.size w1 wz := belq.trans bz
              have IZ : Hid (Dsk w1.heap.size w1.heap.size wz sr ∧ sr.on = true ∧ sr.has = false ∧ Big 100000000 (800000 + (k2 + 1)) sr) := hide ⟨Dz, YY.out.1, YY.out.2.1, HBQ.out⟩
              have ZZ : Hid (k2 + 1 = 0 ∨ sr.wait.length = 0) := hide (.inr YY.out.2.2)
              clear Dz bz YY
              go_wp2
              go_roundw
              case rel => exact ⟨k2 + 1, by omega, by go_num, cz, _, IZ, ZZ⟩
              case measure => simp [intOf]; omega
            · have hlt2' : ¬ (k2 : Int) < 3 := by omega
              have hz : sq.wait.length = 0 := by
                rcases ZQ.out with h | h
                · omega
                · exact h
              have HDq := hide Dq
              have HONQ := hide onq
              have HZ := hide hz
              clear Dq onq hasq bigq IQ ZQ hz
              have cq : Below w.heap.size w wr := b1.trans (belq.mono s1)
              go_wp2_with (first
                | (go_at_call 15; refine (don HDq.out).mono ?_; rintro E w' ⟨rfl, rfl⟩; rw [HONQ.out])
                | (go_at_call 18; refine (dpend HDq.out).mono ?_; rintro E w' ⟨rfl, rfl⟩; rw [HZ.out]))
              go_ret
              exact ⟨rfl, cq⟩

end Go.Proofs.Yteklbnonikccaaa
