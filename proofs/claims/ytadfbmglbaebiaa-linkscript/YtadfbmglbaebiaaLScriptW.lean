/- The walk of LinkScript. -/
import Derived.Test.YtadfbmglbaebiaaLsc
import Derived.Deep.RegionHeld3
namespace Go.Proofs.Ytadfbmglbaebiaa
open Go.RowKit Go.Shelf
set_option linter.unusedVariables false

set_option maxRecDepth 100000 in
set_option maxHeartbeats 16000000 in
theorem linkScript_walk (v : Value) (l : List Av) (stop : Int) (w : World) (h : IsLA w v l) (hl : l.length * 40 ≤ 140737488351232) (hst : (Lit.int .i64 stop).wf = true) :
    Calls Try.prog 4 #[v, .int .i64 stop] w fun E w' => E = .returned (.bool true) ∧ Below w.heap.size w w' := by
  obtain ⟨ao, cap, hv, hcap, hcm⟩ := h.1.shape
  have hi64 : I64 stop := by
    have := range_i64 (zs := [stop]) (by simpa using hst) 0
    simp at this
    exact ⟨by omega, by omega⟩
  have H := hide h
  subst hv
  clear h hst
  go_enter Try.func4, Try.ntmps4
  go_wp2_with fail
  refine (lives_any w).mono ?_
  rintro E w1 ⟨rfl, b1⟩
  have H1 := hide (H.out.below b1)
  go_wp2_with fail
  refine (lsmall_any _ l w1 H1.out (by omega)).mono ?_
  rintro E w1' ⟨rfl, rfl⟩
  cases hsm : smallL l
  · go_wp2
    go_ret
    exact ⟨rfl, b1⟩
  · obtain ⟨hl12, hb40⟩ := smallL_len hsm
    have HB40 := hide hb40
    clear hsm hb40
    go_wp2_with fail
    refine (lnew_any w1).mono ?_
    rintro E w2 ⟨rfl, K1, b2⟩
    go_wp2_with fail
    refine (lnewR_any w2).mono ?_
    rintro E w3 ⟨rfl, K2, b3⟩
    have I0 : Hid (PI w1.heap.size w2.heap.size 0 w1 w3) := hide ⟨_, PM.start K1 b2 K2 b3, Lm.ok_new, by simp [Lm.new]⟩
    clear K1 K2 b2 b3
    go_wp2
    go_loopw [7] (fun iv wr => ∃ k : Nat, k ≤ l.length ∧ iv = .int .i64 k ∧ Hid (PI w1.heap.size w2.heap.size k w1 wr)) (fun iv _ => l.length - (intOf iv).toNat)
    case atStart => exact ⟨0, by omega, rfl, I0⟩
    case round =>
      obtain ⟨k, hk, rfl, HI⟩ := hrel
      obtain ⟨st, hM, hok, hlast⟩ := HI.out
      have hbel : Below w1.heap.size w1 wr := by obtain ⟨G, H, h⟩ := hM; exact h.bel
      have sz := hbel.size
      by_cases hlt : k < l.length
      · obtain ⟨b, off, cq, hvx, _, _, hB, hcell⟩ := H1.out.full (by omega)
        simp only [Value.slice.injEq, true_and] at hvx
        obtain ⟨rfl, rfl⟩ := hvx
        obtain ⟨a, ha⟩ : ∃ a, l[k]? = some a := ⟨l[k], by rw [List.getElem?_eq_getElem]⟩
        obtain ⟨c0, c1, c2⟩ := hcell k a ha
        have haok := H1.out.2 a (List.mem_of_getElem? ha)
        have hb40 := HB40.out a (List.mem_of_getElem? ha)
        obtain ⟨av, ac, hav, _, _⟩ := haok.1.shape
        rw [hav] at c2
        have SC : Hid (∀ w', Below w1.heap.size w1 w' → w'.cell? ⟨b, off + k * 3, none⟩ = some (.int .i64 a.k) ∧ w'.cell? ⟨b, off + k * 3 + 1, none⟩ = some (.int .i64 a.n) ∧ w'.cell? ⟨b, off + k * 3 + 2, none⟩ = some (.slice av a.bs.length ac)) := hide fun w' hb => ⟨(hb.cell (p := ⟨b, off + k * 3, none⟩) hB).trans c0, (hb.cell (p := ⟨b, off + k * 3 + 1, none⟩) hB).trans c1, (hb.cell (p := ⟨b, off + k * 3 + 2, none⟩) hB).trans c2⟩
        have ISA : Hid (∀ w', Below w1.heap.size w1 w' → Is .u8 w' (.slice av a.bs.length ac) a.bs) := hide fun w' hb => by
          have := haok.1.below hb
          rwa [hav] at this
        obtain ⟨e0, e1, e2⟩ := SC.out wr hbel
        have LN := hide (lent_any (.slice av a.bs.length ac) a.bs wr (ISA.out wr hbel) (by omega))
        have hva : 0 < a.bs.length → ∀ g, a.v.ownBlock = some g → g < w1.heap.size := fun h0 => haok.1.lt h0
        have HVA := hide hva
        have hk64 := haok.2.1
        have HM := hide hM
        have HOK := hide hok
        have HAV := hide hav
        have hlt' : (k : Int) < l.length := by omega
        have hk0 : (0 : Int) ≤ (k : Int) := by omega
        clear hcell ha c0 c1 c2 haok hav HI hM hok hva
        go_wp2_with fail
        refine LN.out.mono ?_
        rintro E wl ⟨vf, rfl, ownf, bl⟩
        obtain ⟨bf, cf, hvf, hcf1, hcf2, hbf1, hbf2, isf⟩ := ownf.front (by simp)
        simp only [List.length_cons, List.length_nil, Nat.reduceAdd] at hvf hcf1
        have bwl : Below w1.heap.size w1 wl := hbel.trans (bl.mono sz)
        obtain ⟨x0, x1, x2⟩ := SC.out wl bwl
        have hsl : ∀ wx, (Instr.slice 29 vf none (some (.int .i64 (a.bs.length : Int))) none).run Try.prog wx = .ok (.slice (some ⟨bf, 0, none⟩) a.bs.length cf) wx := fun wx => by
          rw [hvf, run_slice_h wx 29 (some ⟨bf, 0, none⟩) (a.bs.length + 3) cf Try.elemP .i64 _ (by omega) (by omega), Try.sizeP]
          simp [Result.andThen, sliced, Addr.add]
        have ISF := hide isf
        have HOWN := hide ownf
        have HVF := hide hvf
        have CA : Hid (Calls Try.prog 17 #[.pointer (some ⟨w1.heap.size, 0, none⟩), .pointer (some ⟨w2.heap.size, 0, none⟩), .agg #[.int .i64 a.k, .int .i64 a.n, .slice av a.bs.length ac], .slice (some ⟨bf, 0, none⟩) a.bs.length cf] wl.drew fun E w5 => E = .returned (.bool true) ∧ Hid (∃ st', PM w1.heap.size w1.heap.size w2.heap.size (fun g => g = bf) w1 w5 st' st' ∧ Lm.Ok st' ∧ st'.last ≤ k + 1 ∧ w5.heap[bf]? = wl.heap[bf]? ∧ Below w1.heap.size w1 w5) ∧ (w5.cell? ⟨b, off + k * 3, none⟩ = some (.int .i64 a.k) ∧ w5.cell? ⟨b, off + k * 3 + 1, none⟩ = some (.int .i64 a.n) ∧ w5.cell? ⟨b, off + k * 3 + 2, none⟩ = some (.slice av a.bs.length ac))) := hide (by
          have bd : Below wl.heap.size wl wl.drew := below_drewN (Below.refl _ _) 1
          have brl : Below wr.heap.size wr wl.drew := bl.trans (bd.mono bl.size)
          have bwd : Below w1.heap.size w1 wl.drew := bwl.trans (bd.mono bwl.size)
          have sd : wl.drew.heap.size = wl.heap.size := rfl
          have := call_any w1.heap.size w1.heap.size w2.heap.size (fun g => g = bf) w1 wl.drew st a (.slice (some ⟨bf, 0, none⟩) a.bs.length cf) (HM.out.beside brl (fun g hg => .inr (by omega)) (fun g hg => by rw [sd]; omega)) HOK.out (by omega) hk64 (by rw [HAV.out]; exact ISA.out _ bwd) HVA.out (ISF.out.drewN 1) hb40 (fun _ g hg => by simp [Value.ownBlock] at hg; exact hg.symm)
          rw [HAV.out] at this
          refine this.mono ?_
          rintro E w5 ⟨rfl, st', m5, o5, l5, k5, b5⟩
          have b15 := bwd.trans b5
          exact ⟨rfl, hide ⟨st', m5, o5, by omega, (k5 bf rfl).trans rfl, b15⟩, SC.out w5 b15⟩)
        rw [hvf] at hsl ⊢
        clear isf ownf hvf LN
        go_wp2_with fail
        go_region_held3 (fun w' => w'.cell? ⟨b, off + k * 3, none⟩ = some (.int .i64 a.k) ∧ w'.cell? ⟨b, off + k * 3 + 1, none⟩ = some (.int .i64 a.n) ∧ w'.cell? ⟨b, off + k * 3 + 2, none⟩ = some (.slice av a.bs.length ac)) (first | exact ⟨x0, x1, x2⟩ | exact Y5.out | go_keep)
          (first
          | (go_at_call 17; refine CA.out.mono ?_; rintro E w5 ⟨rfl, S5, Y5'⟩; have Y5 := hide Y5'; clear Y5'))
        obtain ⟨y0, y1, y2⟩ := Y5.out
        have hfull : Hid (∀ w', Below w1.heap.size w1 w' → w'.heap[bf]? = wl.heap[bf]? → Own .u8 5 wr.heap.size w' (.slice (some ⟨bf, 0, none⟩) (a.bs.length + 3) cf) (a.bs ++ [201, 202, 203])) := hide fun w' hb hf => by
          have := HOWN.out.agree (w' := w') fun g hg => by
            rw [HVF.out] at hg
            simp [Value.ownBlock] at hg
            subst hg
            exact hf
          rwa [HVF.out] at this
        obtain ⟨st', m5, o5, l5, k5, b15⟩ := S5.out
        have KP := hide (kept_yes (.slice (some ⟨bf, 0, none⟩) (a.bs.length + 3) cf) (.slice av a.bs.length ac) a.bs _ w5 (hfull.out w5 b15 k5).is (ISA.out w5 b15) (by omega) rfl)
        have HM5 := hide m5
        have HO5 := hide o5
        clear m5 o5 S5 Y5 x0 x1 x2 e0 e1 e2 CA hsl
        go_wp2_with fail
        refine KP.out.mono ?_
        rintro E w6 ⟨rfl, b6⟩
        have b16 := b15.trans (b6.mono b15.size)
        have hbf5 : bf < w5.heap.size := by
          have := hfull.out w5 b15 k5
          exact (this.block bf rfl).2
        have k6 := (b6.block bf hbf5).trans k5
        have M6 := hide (HM5.out.below b6)
        have FIN : Hid (∀ W, PM w1.heap.size w1.heap.size w2.heap.size (fun g => g = bf) w1 W st' st' → W.heap[bf]? = wl.heap[bf]? → Below w1.heap.size w1 W → Calls Try.prog 22 #[.slice (some ⟨bf, 0, none⟩) (a.bs.length + 3) cf] W fun E w' => E = .returned (.tuple #[]) ∧ Hid (PI w1.heap.size w2.heap.size (k + 1) w1 w')) := hide fun W hW hf hbW => by
          refine (over_any _ _ wr.heap.size W (hfull.out W hbW hf)).mono ?_
          rintro E w' ⟨rfl, _, gr⟩
          have ho : Out (fun g => g = bf) W w' := Out.of_grown gr fun g hg => by simp [Value.ownBlock] at hg; exact hg.symm
          exact ⟨rfl, hide ⟨st', (hW.wr ho fun g hg => by omega).beside (Below.refl _ _) (fun g hg => hg.elim) (fun g hg => hg.elim), HO5.out, l5⟩⟩
        clear KP y0 y1 y2
        by_cases hk40 : k < 40
        · have hk40' : (k : Int) < 40 := by omega
          have hk40b : decide ((k : Int) < 40) = true := by simp; omega
          have FA : Hid (Calls Try.prog 20 #[.pointer (some ⟨w1.heap.size, 0, none⟩)] w6 fun E w' => ∃ v ns, E = .returned v ∧ LCopy w6.heap.size w' v ns ∧ ns.map Lw.l = st'.fl ∧ Below w6.heap.size w6 w') := hide (by
            obtain ⟨G, H, h⟩ := M6.out
            exact flight_any _ G w6 st' h.a HO5.out)
          go_wp2_with fail
          refine FA.out.mono ?_
          rintro E w7 ⟨v7, n7, rfl, cp7, m7, b7⟩
          have FB : Hid (Calls Try.prog 21 #[.pointer (some ⟨w2.heap.size, 0, none⟩)] w7 fun E w' => ∃ v ns, E = .returned v ∧ (OwnG letc 3 31 w7.heap.size w' v ns ∧ ∀ r ∈ ns, Own .u8 5 w7.heap.size w' r.v r.bs) ∧ ns.map Lw.l = st'.fl ∧ Below w7.heap.size w7 w') := hide (by
            obtain ⟨G, H, h⟩ := M6.out.below b7
            exact flightR_any _ H w7 st' h.b HO5.out)
          have hf7 : ∃ a n c, v7 = .slice a n c := by obtain ⟨a, c, h1, _⟩ := cp7.1.row.shape; exact ⟨a, _, c, h1⟩
          obtain ⟨a7, x7, c7, rfl⟩ := hf7
          have HC7 := hide cp7
          have HM7 := hide m7
          clear cp7 m7 FA
          go_wp2_with fail
          refine FB.out.mono ?_
          rintro E w8 ⟨v8, n8, rfl, cp8, m8, b8⟩
          have hf8 : ∃ a n c, v8 = .slice a n c := by obtain ⟨a, c, h1, _⟩ := cp8.1.row.shape; exact ⟨a, _, c, h1⟩
          obtain ⟨a8, x8, c8, rfl⟩ := hf8
          have FL := hide (flights_any _ _ n7 n8 w8 (HC7.out.rowl.below b8) ⟨cp8.1.row, fun r hr => (cp8.2 r hr).is⟩ (by rw [HM7.out, m8]) (fun r hr => (HO5.out.each r.l (by rw [← HM7.out]; exact List.mem_map_of_mem hr)).2.2.2) (by
            have h1 := congrArg List.length HM7.out
            have h2 := HO5.out.len
            rw [List.length_map] at h1
            omega))
          have b68 : Below w6.heap.size w6 w8 := b7.trans (b8.mono b7.size)
          clear cp8 m8 FB
          go_wp2_with fail
          refine FL.out.mono ?_
          rintro E w9 ⟨rfl, m, rfl⟩
          have b69 := below_drewN b68 m
          have OV := hide (FIN.out (w8.drewN m) (M6.out.below b69) ((b69.block bf (by have := b6.size; omega)).trans k6) (b16.trans (b69.mono b16.size)))
          clear FL FIN
          go_wp2_with fail
          refine OV.out.mono ?_
          rintro E w10 ⟨rfl, J⟩
          go_wp2
          go_roundw
          case rel => exact ⟨k + 1, by omega, by go_num, J⟩
          case measure => simp [intOf]; omega
        · have hk40' : ¬ (k : Int) < 40 := by omega
          have hk40b : decide ((k : Int) < 40) = false := by simp; omega
          have OV := hide (FIN.out w6 M6.out k6 b16)
          clear FIN
          go_wp2_with fail
          refine OV.out.mono ?_
          rintro E w10 ⟨rfl, J⟩
          go_wp2
          go_roundw
          case rel => exact ⟨k + 1, by omega, by go_num, J⟩
          case measure => simp [intOf]; omega
      · have hlt' : ¬ (k : Int) < l.length := by omega
        have HM := hide hM
        have HOK := hide hok
        have hlast' : st.last ≤ 9223372036854775807 := by omega
        obtain ⟨we, rfl⟩ : ∃ x, x = wr := ⟨wr, rfl⟩
        have FA : Hid (∀ W, Below we.heap.size we W → Calls Try.prog 20 #[.pointer (some ⟨w1.heap.size, 0, none⟩)] W fun E w' => ∃ v ns, E = .returned v ∧ LCopy W.heap.size w' v ns ∧ ns.map Lw.l = st.fl ∧ Below W.heap.size W w') := hide fun W hW => by
          obtain ⟨G, H, h⟩ := HM.out.below hW
          exact flight_any _ G W st h.a HOK.out
        have LEN : Hid (∀ ns : List Lw, ns.map Lw.l = st.fl → ns.length ≤ 512 ∧ ∀ r ∈ ns, r.bs.length ≤ 40) := hide fun ns hm => ⟨by
            have h1 := congrArg List.length hm
            have h2 := HOK.out.len
            rw [List.length_map] at h1
            omega, fun r hr => (HOK.out.each r.l (by rw [← hm]; exact List.mem_map_of_mem hr)).2.2.2⟩
        clear HI hM hok
        go_wp2_with fail
        refine (FA.out we (Below.refl _ _)).mono ?_
        rintro E w4 ⟨va, ns, rfl, cpa, ma, b4⟩
        have FB : Hid (Calls Try.prog 21 #[.pointer (some ⟨w2.heap.size, 0, none⟩)] w4 fun E w' => ∃ v ns, E = .returned v ∧ (OwnG letc 3 31 w4.heap.size w' v ns ∧ ∀ r ∈ ns, Own .u8 5 w4.heap.size w' r.v r.bs) ∧ ns.map Lw.l = st.fl ∧ Below w4.heap.size w4 w') := hide (by
          obtain ⟨G, H, h⟩ := HM.out.below b4
          exact flightR_any _ H w4 st h.b HOK.out)
        have hfa : ∃ a c, va = .slice a ns.length c ∧ ns.length ≤ c := by obtain ⟨a, c, h1, h2, _⟩ := cpa.1.row.shape; exact ⟨a, c, h1, h2⟩
        obtain ⟨aa, ca, rfl, hca⟩ := hfa
        have HCA := hide cpa
        have HMA := hide ma
        clear cpa ma
        go_wp2_with fail
        refine FB.out.mono ?_
        rintro E w5 ⟨vb, ms, rfl, cpb, mb, b5⟩
        have hfb : ∃ a n c, vb = .slice a n c := by obtain ⟨a, c, h1, _⟩ := cpb.1.row.shape; exact ⟨a, _, c, h1⟩
        obtain ⟨ab, xb, cb, rfl⟩ := hfb
        have HCB := hide cpb
        have HMB := hide mb
        have FL := hide (flights_any _ _ ns ms w5 (HCA.out.rowl.below b5) ⟨cpb.1.row, fun r hr => (cpb.2 r hr).is⟩ (by rw [HMA.out, mb]) (LEN.out ns HMA.out).2 (by have := (LEN.out ns HMA.out).1; omega))
        have b05 : Below we.heap.size we w5 := b4.trans (b5.mono b4.size)
        clear cpb mb FB
        go_wp2_with fail
        refine FL.out.mono ?_
        rintro E w6 ⟨rfl, m, rfl⟩
        have b06 := below_drewN b05 m
        have GO : Hid (Calls Try.prog 23 #[.pointer (some ⟨w1.heap.size, 0, none⟩), .slice ab xb cb, .int .i64 stop] (w5.drewN m) fun E w' => E = .returned (.bool true) ∧ Below w5.heap.size w5 w') := hide (by
          obtain ⟨G, H, h⟩ := HM.out.below b06
          have bm : Below w5.heap.size w5 (w5.drewN m) := below_drewN (Below.refl _ _) m
          have rl : RowL (w5.drewN m) (.slice ab xb cb) ms := RowL.below ⟨HCB.out.1.row, fun r hr => (HCB.out.2 r hr).is⟩ bm
          rcases Nat.eq_zero_or_pos ms.length with h0 | h0
          · refine (gone0_any _ G _ st _ ms stop h.a HOK.out hlast' rl HMB.out h0 hi64).mono ?_
            rintro E w' ⟨rfl, b'⟩
            exact ⟨rfl, bm.trans b'⟩
          · refine (gone1_any _ G _ st _ ms stop h.a HOK.out hlast' rl HMB.out h0 hi64).mono ?_
            rintro E w' ⟨rfl, b'⟩
            exact ⟨rfl, bm.trans b'⟩)
        clear FL
        go_wp2_with fail
        refine GO.out.mono ?_
        rintro E w7 ⟨rfl, b57⟩
        clear GO
        have hn512 := (LEN.out ns HMA.out).1
        have b07 : Below we.heap.size we w7 := b05.trans (b57.mono b05.size)
        have R0 : Hid (OwnG vc 1 29 w7.heap.size w7 (.slice none 0 0) ((ns.map Lw.v).take 0)) := hide (by simpa using OwnG.nil vc 1 29 w7.heap.size w7)
        have b47 : Below w4.heap.size w4 w7 := b5.trans (b57.mono b5.size)
        go_wp2
        go_loopw [12, 13] (fun ov iv wr => ∃ q : Nat, q ≤ ns.length ∧ iv = .int .i64 q ∧ Hid (OwnG vc 1 29 w7.heap.size wr ov ((ns.map Lw.v).take q)) ∧ (∃ a n c, ov = .slice a n c) ∧ Hid (q = 0 → ov = .slice none 0 0) ∧ Below w7.heap.size w7 wr) (fun _ iv _ => ns.length - (intOf iv).toNat)
        case atStart => exact ⟨0, by omega, rfl, R0, ⟨_, _, _, rfl⟩, hide fun _ => rfl, Below.refl _ _⟩
        case round =>
          obtain ⟨q, hq, rfl, HR, ⟨ao2, no2, co2, rfl⟩, HNIL, b7r⟩ := hrel
          have sz7 := b7r.size
          by_cases hqn : q < ns.length
          · obtain ⟨g, cg, hvg, _, _, _⟩ := HCA.out.1.form (by omega)
            simp only [Value.slice.injEq, true_and] at hvg
            obtain ⟨rfl, rfl⟩ := hvg
            obtain ⟨r, hr⟩ : ∃ r, ns[q]? = some r := ⟨ns[q], by rw [List.getElem?_eq_getElem]⟩
            have hglt := (HCA.out.1.lt g rfl).2
            have c4 := HCA.out.1.at letc_len hr (j := 2) rfl
            have c5 : wr.cell? ⟨g, q * 3 + 2, none⟩ = some r.v := ((b47.trans (b7r.mono b47.size)).cell (p := ⟨g, q * 3 + 2, none⟩) hglt).trans c4
            obtain ⟨ar, nr, cr, hrv⟩ := (HCA.out.2.1 r (List.mem_of_getElem? hr)).is.form
            have htk : (ns.map Lw.v).take (q + 1) = (ns.map Lw.v).take q ++ [.slice ar nr cr] := by
              rw [List.take_add_one, List.getElem?_map, hr, ← hrv]
              rfl
            rw [hrv] at c5
            obtain ⟨wz, hwz, szz, bz, rowz⟩ := rows_step vc 1 vc_len 29 wr #[.slice ar nr cr] 1 [.slice ar nr cr] rfl rfl (by decide)
            have RZ : Hid (OwnG vc 1 29 w7.heap.size wz (.slice ao2 no2 co2) ((ns.map Lw.v).take q)) := hide (HR.out.agree fun b hb => bz.block b (HR.out.lt b hb).2)
            have ROWZ := hide rowz.row
            have hone : Hid (∀ u ∈ gcells vc [Value.slice ar nr cr], u.oneCell' = true) := hide (vc_one _ fun u hu => ⟨ar, nr, cr, by simpa using hu⟩)
            have htl : ((ns.map Lw.v).take q).length = q := by rw [List.length_take, List.length_map]; omega
            have HTK := hide htk
            have HTL := hide htl
            have hq0 : (0 : Int) ≤ (q : Int) := by omega
            have hqn' : (q : Int) < ns.length := by omega
            clear rowz HR c4 hr htk htl hrv
            go_wp2_with (at_builtin; refine wpList_append_rows vc 1 24 vc_len (by decide) (by decide) (.slice none 0 0) rfl rfl (.tmp 95) (.tmp 101) 49 rfl 29 w7.heap.size Try.underlying49 Try.info29 _ ((ns.map Lw.v).take q) rfl RZ.out _ [.slice ar nr cr] rfl ROWZ.out hone.out (by rw [HTL.out]; simp; omega) (by omega) ?_)
            intro v' w' own' gr'
            have b' : Below w7.heap.size w7 w' := (b7r.trans (bz.mono sz7)).grown gr' (by omega) fun g hg => (RZ.out.lt g hg).1
            rw [← HTK.out] at own'
            have hf' : ∃ a n c, v' = .slice a n c := by obtain ⟨a, c, h1, _⟩ := own'.row.shape; exact ⟨a, _, c, h1⟩
            have R' := hide own'
            clear own' gr' RZ ROWZ hone
            go_wp2
            go_roundw
            case rel => exact ⟨q + 1, by omega, by go_num, R', hf', hide fun h => by omega, b'⟩
            case measure => simp [intOf]; omega
          · obtain rfl : q = ns.length := by omega
            have hqn' : ¬ (ns.length : Int) < ns.length := by omega
            have R1 := HR.out
            rw [List.take_of_length_le (by simp)] at R1
            have HR1 := hide R1
            have b4r : Below w4.heap.size w4 wr := b47.trans (b7r.mono b47.size)
            have b0r : Below we.heap.size we wr := b4.trans (b4r.mono b4.size)
            have AP : Hid (Calls Try.prog 24 #[.slice ao2 no2 co2] wr fun E w' => E = .returned (.bool true) ∧ Below we.heap.size we w' ∧ RowL w' (.slice ab xb cb) ms) := hide (by
              have rlr : RowL wr (.slice ab xb cb) ms := RowL.below ⟨HCB.out.1.row, fun r hr => (HCB.out.2 r hr).is⟩ (b57.trans (b7r.mono b57.size))
              rcases Nat.eq_zero_or_pos ns.length with h0 | h0
              · have hns : ns.map Lw.v = [] := by rw [List.map_eq_nil_iff]; exact List.eq_nil_of_length_eq_zero h0
                have hz : Value.slice ao2 no2 co2 = .slice none 0 0 := HNIL.out h0
                rw [hz]
                refine (apart_none wr).mono ?_
                rintro E w' ⟨rfl, b'⟩
                exact ⟨rfl, b0r.trans (b'.mono b0r.size), rlr.below b'⟩
              · obtain ⟨bl, cl, hvv, hcl, L⟩ := lists_of HCA.out (LEN.out ns HMA.out).2 b47.size HR1.out b4r h0
                rw [hvv]
                refine (apart_keeps ns.length bl cl we.heap.size _ _ wr (by omega) hcl b0r.size L h0).mono ?_
                rintro E w' ⟨rfl, b', hkp⟩
                have hkb : ∀ b, w4.heap.size ≤ b → b < wr.heap.size → w'.heap[b]? = wr.heap[b]? := fun b h1 h2 => hkp b h2 fun i hi e => by
                  obtain ⟨r, h3⟩ : ∃ r, ns[i]? = some r := ⟨ns[i], by rw [List.getElem?_eq_getElem]⟩
                  have h4 : (ns.map Lw.v).getD i (.slice none 0 0) = r.v := by simp [List.getD, h3]
                  rw [h4] at e
                  have := ((HCA.out.2.1 r (List.mem_of_getElem? h3)).block b e).2
                  omega
                have b5r : Below w5.heap.size w5 wr := b57.trans (b7r.mono b57.size)
                have s5r := b5r.size
                refine ⟨rfl, b0r.trans b', ?_, fun r hr => ?_⟩
                · exact rlr.1.agree fun b hb => by
                    have := HCB.out.1.lt b hb
                    exact hkb b this.1 (by omega)
                · have h5 := HCB.out.2 r hr
                  exact ((h5.below b5r).agree fun b hb => hkb b (h5.block b hb).1 (by have := (h5.block b hb).2; omega)).is)
            clear HR R1
            go_wp2_with fail
            refine AP.out.mono ?_
            rintro E w8 ⟨rfl, b08, rl8⟩
            have RL8 := hide rl8
            clear rl8 AP
            go_wp2_with fail
            refine (FA.out w8 b08).mono ?_
            rintro E w9 ⟨vc9, n9, rfl, cp9, m9, b9⟩
            have hf9 : ∃ a n c, vc9 = .slice a n c := by obtain ⟨a, c, h1, _⟩ := cp9.1.row.shape; exact ⟨a, _, c, h1⟩
            obtain ⟨a9, x9, c9, rfl⟩ := hf9
            have FL := hide (flights_any _ _ n9 ms w9 cp9.rowl (RL8.out.below b9) (by rw [m9, HMB.out]) (LEN.out n9 m9).2 (by have := (LEN.out n9 m9).1; omega))
            clear cp9 m9
            go_wp2_with fail
            refine FL.out.mono ?_
            rintro E w10 ⟨rfl, m10, rfl⟩
            have bF : Below w.heap.size w (w9.drewN m10) := below_drewN (b1.trans ((hbel.trans ((b08.trans (b9.mono b08.size)).mono sz)).mono b1.size)) m10
            go_wp2
            go_ret
            exact ⟨rfl, bF⟩

end Go.Proofs.Ytadfbmglbaebiaa
