/- The walk of LinkFlight. -/
import Derived.Test.YtadfbmglbaebiaaLfm
import Derived.Test.YtadfbmglbaebiaaLq
namespace Go.Proofs.Ytadfbmglbaebiaa
open Go.RowKit Go.Shelf
set_option linter.unusedVariables false
attribute [local go_sem] Oper.semAt_some

/-- Behind the calls: a link. -/
def FA (base : Nat) (k : Nat) (wr : World) : Prop := ∃ st, SL false base base wr st ∧ Lm.Ok st ∧ st.last ≤ k

set_option maxRecDepth 100000 in
set_option maxHeartbeats 16000000 in
theorem linkFlight_walk (v : Value) (l : List Av) (order : Int) (w : World) (h : IsLA w v l) (hl : l.length * 40 ≤ 140737488351232) (ho : (Lit.int .i64 order).wf = true) :
    Calls Try.prog 7 #[v, .int .i64 order] w fun E w' => E = .returned (.bool true) ∧ Below w.heap.size w w' := by
  obtain ⟨ao, cap, hv, hcap, hcm⟩ := h.1.shape
  have hi64 : I64 order := by
    have := range_i64 (zs := [order]) (by simpa using ho) 0
    simp at this
    exact ⟨by omega, by omega⟩
  obtain ⟨w1, hw1, sz1, b01, BR⟩ := blk_step w #[.bool false] 4
  have H := hide (h.below b01)
  subst hv
  clear h ho
  refine (callsIn_wide (n := 6)).1 ?_
  refine callsIn_of_wp_marks Try.func7 rfl trivial ?_ rfl
  refine wpIn_wide.2 (calm_wp ?_)
  simp only [Try.ntmps7, List.size_toArray, List.length_cons, List.length_nil, Nat.reduceAdd, Nat.reduceSub, Array.replicate_succ, Array.replicate_zero, List.push_toArray, List.append_toArray, List.nil_append, List.cons_append]
  go_wp2_with fail
  refine (lives_any w1).mono ?_
  rintro E w2 ⟨rfl, b12⟩
  have H1 := hide (H.out.below b12)
  have BR2 := (b12.block w.heap.size (by omega)).trans BR
  have b02 : Below w.heap.size w w2 := b01.trans (b12.mono (by omega))
  have z12 := b12.size
  have hRl : w.heap.size < w2.heap.size := by omega
  have HBR := hide BR2
  clear BR BR2 b12 b01
  go_wp2_with fail
  refine (lsmall_any _ l w2 H1.out (by omega)).mono ?_
  rintro E w2' ⟨rfl, rfl⟩
  cases hsm : smallL l
  · have c9 := blk_cell HBR.out 0 rfl
    have f9 := blk_froz HBR.out 0
    have p9 := set_cells HBR.out 0 (.bool true)
    have u9 := blk_cell p9 0 rfl
    have B9 := hide (b02.grown (grown_setCell w2 ⟨w.heap.size, 0, none⟩ (.bool true)) b02.size fun k e => by simp at e; omega)
    clear p9
    go_wp2
    refine ⟨.bool true, ?_, rfl, B9.out⟩
    simp [results, Try.results7, go_sem, u9]
  · obtain ⟨hl12, hb40⟩ := smallL_len hsm
    have HB40 := hide hb40
    clear hsm hb40
    go_wp2_with fail
    refine (snew_any w2).mono ?_
    rintro E w3 ⟨rfl, s3, b23⟩
    have I0 : Hid (FA w2.heap.size 0 w3) := hide ⟨_, s3, Lm.ok_new, by simp [Lm.new]⟩
    clear s3
    go_wp2
    go_loopw [6] (fun iv wr => ∃ k : Nat, k ≤ l.length ∧ iv = .int .i64 k ∧ Hid (FA w2.heap.size k wr) ∧ Below w2.heap.size w2 wr) (fun iv _ => l.length - (intOf iv).toNat)
    case atStart => exact ⟨0, by omega, rfl, I0, b23⟩
    case round =>
      obtain ⟨k, hk, rfl, HI, bel⟩ := hrel
      obtain ⟨st, hS, hok, hlast⟩ := HI.out
      have sz := bel.size
      by_cases hlt : k < l.length
      · obtain ⟨b, off, cq, hvx, _, _, hB, hcell⟩ := H1.out.full (by omega)
        simp only [Value.slice.injEq, true_and] at hvx
        obtain ⟨rfl, rfl⟩ := hvx
        obtain ⟨a, ha⟩ : ∃ a, l[k]? = some a := ⟨l[k], by rw [List.getElem?_eq_getElem]⟩
        obtain ⟨c0, c1, c2⟩ := hcell k a ha
        have e0 := (bel.cell (p := ⟨b, off + k * 3, none⟩) hB).trans c0
        have e1 := (bel.cell (p := ⟨b, off + k * 3 + 1, none⟩) hB).trans c1
        have e2 := (bel.cell (p := ⟨b, off + k * 3 + 2, none⟩) hB).trans c2
        have haok := H1.out.2 a (List.mem_of_getElem? ha)
        have hb40 := HB40.out a (List.mem_of_getElem? ha)
        obtain ⟨av, ac, hav, _, _⟩ := haok.1.shape
        have PA := hide (pickx_any a.k 4 wr (by omega) (by omega) haok.2.1)
        obtain ⟨q0, q1⟩ := pk_lt a.k 4 (by omega)
        generalize pk a.k 4 = q at PA q0 q1
        have hk0 : (0 : Int) ≤ (k : Int) := by omega
        have hlt' : (k : Int) < l.length := by omega
        have isA := haok.1.below bel
        have HS := hide hS
        have HOK := hide hok
        have HIS := hide isA
        rw [hav] at e2 HIS
        clear hcell ha c0 c1 c2 haok hav hS hok HI isA
        go_wp2_with fail
        refine PA.out.mono ?_
        rintro E V' ⟨rfl, rfl⟩
        rcases (show q = 0 ∨ q = 1 ∨ q = 2 ∨ q = 3 by omega) with rfl | rfl | rfl | rfl
        · obtain ⟨⟨⟨y1, y2⟩, y3⟩, hy⟩ : ∃ y, Lm.send st a.n a.bs = y := ⟨_, rfl⟩
          have hly := Lm.last_send st a.n a.bs
          have hoy := Lm.ok_send (to := a.n) HOK.out hb40
          rw [hy] at hly hoy
          have SX : Hid (Calls Try.prog 10 #[.pointer (some ⟨w2.heap.size, 0, none⟩), .int .i64 a.n, .slice av a.bs.length ac] wr.drew fun E w' => ∃ u, E = .returned u ∧ (u = .tuple #[.int .i64 y1, .int .i64 y2] ∧ FA w2.heap.size (k + 1) w' ∧ Below w2.heap.size w2 w')) := hide (by
            have bd : Below wr.heap.size wr wr.drew := below_drewN (Below.refl _ _) 1
            refine (ssend_any w2.heap.size w2.heap.size wr.drew st a.n _ a.bs y1 y2 y3 (HS.out.below bd) sz (HIS.out.drewN 1) hb40 (by omega) hy).mono ?_
            rintro E w' ⟨rfl, s, b⟩
            exact ⟨_, rfl, rfl, ⟨y3, s, hoy, by simp only at hly; omega⟩, (bel.trans (bd.mono sz)).trans b⟩)
          clear hy hly hoy
          go_wp2_with fail
          go_region_law (refine call_at rfl 10 #[.tmp 38, .tmp 43, .tmp 48] #[23, 3, 29] rfl Try.enters10 #[.pointer (some ⟨w2.heap.size, 0, none⟩), .int .i64 a.n, .slice av a.bs.length ac] (by first | (simp [Act.eval]; done) | (simp [Act.eval, Act.put]; done)) SX.out ?_; rintro _ w5 ⟨rfl, J, bJ⟩; have J := hide J)
          all_goals
            go_wp2
            go_roundw
            case rel => exact ⟨k + 1, by omega, by go_num, J, bJ⟩
            case measure => simp [intOf]; omega
        · obtain ⟨⟨⟨x, y2⟩, y3⟩, hy⟩ : ∃ y, Lm.del st a.n = y := ⟨_, rfl⟩
          have hly := Lm.last_del st a.n
          have hoy := Lm.ok_del HOK.out a.n
          rw [hy] at hly hoy
          have SX := hide (sdel_any w2.heap.size w2.heap.size wr st a.n x y2 y3 HS.out sz HOK.out.len hy)
          have HL := hide hly
          have HO := hide hoy
          clear hy hly hoy
          go_wp2_with fail
          refine SX.out.mono ?_
          rintro E w5 ⟨vx, rfl, s5, b5, _⟩
          have J : Hid (FA w2.heap.size (k + 1) w5) := hide ⟨_, s5, HO.out, by have := HL.out; omega⟩
          have bJ := bel.trans b5
          clear s5 b5
          go_wp2
          go_roundw
          case rel => exact ⟨k + 1, by omega, by go_num, J, bJ⟩
          case measure => simp [intOf]; omega
        · obtain ⟨⟨⟨y1, y2⟩, y3⟩, hy⟩ : ∃ y, Lm.twi st a.n = y := ⟨_, rfl⟩
          have hly := Lm.last_twi st a.n
          have hoy := Lm.ok_twi HOK.out a.n
          rw [hy] at hly hoy
          have SX := hide (stwice_any w2.heap.size w2.heap.size wr st a.n y1 y2 y3 HS.out sz HOK.out (by omega) hy)
          have HL := hide hly
          have HO := hide hoy
          clear hy hly hoy
          go_wp2_with fail
          refine SX.out.mono ?_
          rintro E w5 ⟨rfl, s5, b5⟩
          have J : Hid (FA w2.heap.size (k + 1) w5) := hide ⟨_, s5, HO.out, by have := HL.out; omega⟩
          have bJ := bel.trans b5
          clear s5 b5
          go_wp2
          go_roundw
          case rel => exact ⟨k + 1, by omega, by go_num, J, bJ⟩
          case measure => simp [intOf]; omega
        · obtain ⟨⟨⟨x, y2⟩, y3⟩, hy⟩ : ∃ y, Lm.del st a.n = y := ⟨_, rfl⟩
          have hly := Lm.last_del st a.n
          have hoy := Lm.ok_del HOK.out a.n
          rw [hy] at hly hoy
          have SX := hide (sdrop_any w2.heap.size w2.heap.size wr st a.n x y2 y3 HS.out sz HOK.out.len hy)
          have HL := hide hly
          have HO := hide hoy
          clear hy hly hoy
          go_wp2_with fail
          refine SX.out.mono ?_
          rintro E w5 ⟨rfl, s5, b5⟩
          have J : Hid (FA w2.heap.size (k + 1) w5) := hide ⟨_, s5, HO.out, by have := HL.out; omega⟩
          have bJ := bel.trans b5
          clear s5 b5
          go_wp2
          go_roundw
          case rel => exact ⟨k + 1, by omega, by go_num, J, bJ⟩
          case measure => simp [intOf]; omega
      · have hlt' : ¬ (k : Int) < l.length := by omega
        have hl9 : st.last ≤ 1200 := by omega
        have XF := hide (sflight_any w2.heap.size w2.heap.size wr st hS hok)
        have HS := hide hS
        have HOK := hide hok
        clear HI hS hok
        go_wp2_with fail
        refine XF.out.mono ?_
        rintro E w5 ⟨vf, ns, rfl, cp5, ns5, b5⟩
        obtain ⟨w6, hw6, hw6', sz6, b6, B6, c6⟩ := new_one w5 45 (.slice none 0 0) vf
        obtain ⟨w7, hw7, sz7, b7, B7⟩ := blk_step w6 #[.int .i64 0] 3
        have hs7 : w7.setCell ⟨w6.heap.size, 0, none⟩ (.int .i64 0) = w7 := set_same B7 rfl
        have c7 := blk_cell B7 0 rfl
        have f7 := blk_froz B7 0
        have b57 : Below w5.heap.size w5 w7 := b6.trans (b7.mono (by omega))
        have br7 : Below wr.heap.size wr w7 := b5.trans (b57.mono b5.size)
        have B67 := (b7.block w5.heap.size (by omega)).trans B6
        obtain ⟨af, nf, cf, hvf⟩ : ∃ a n c, vf = .slice a n c := by
          obtain ⟨a, c, h1, _⟩ := cp5.1.row.shape
          exact ⟨a, _, c, h1⟩
        have XA : Hid (Calls Try.prog 25 #[.pointer (some ⟨w2.heap.size, 0, none⟩)] w7 fun E w' => ∃ B, E = .returned (.func (.func 43) #[] #[.pointer (some ⟨B, 0, none⟩)]) ∧ Seq B w7.heap.size w' (st.fl.map Lm.Lt.n) ∧ Below w7.heap.size w7 w') := hide (by
          obtain ⟨F, h1, _⟩ := HS.out.below br7
          exact all_any _ F w7 st h1 HOK.out (by omega))
        have HB6 := hide B67
        have HB7 := hide B7
        have HC5 := hide cp5
        have HN5 := hide ns5
        have Z6 := hide sz6
        have Z7 := hide sz7
        rw [hvf] at hw6 hw6' c6
        have HVF := hide hvf
        clear cp5 ns5 B6 B67 B7 sz6 sz7
        go_wp2_with fail
        refine XA.out.mono ?_
        rintro E W0 ⟨B, rfl, sq, b70⟩
        obtain ⟨zs, hzs⟩ : ∃ zs, st.fl.map Lm.Lt.n = zs := ⟨_, rfl⟩
        rw [hzs] at sq
        have z6 := Z6.out
        have z7 := Z7.out
        have z5 := b5.size
        have hnl : ns.length = zs.length := by rw [← hzs, List.length_map, ← HN5.out, List.length_map]
        have hzl : zs.length ≤ 512 := by rw [← hzs, List.length_map]; exact HOK.out.len
        have hza : ∀ (i : Nat) (r : Lw), ns[i]? = some r → zs[i]? = some r.n := fun i r hr => by
          rw [← hzs, List.getElem?_map, ← HN5.out, List.getElem?_map, hr]
          rfl
        have hup : ∀ (i j : Nat) (x y : Int), i < j → zs[i]? = some x → zs[j]? = some y → x < y := fun i j x y hij hx hy => by
          rw [← hzs, List.getElem?_map, Option.map_eq_some_iff] at hx hy
          obtain ⟨a, ha, rfl⟩ := hx
          obtain ⟨c, hc, rfl⟩ := hy
          obtain ⟨a1, a2⟩ := List.getElem?_eq_some_iff.1 ha
          obtain ⟨c1, c2⟩ := List.getElem?_eq_some_iff.1 hc
          have := List.pairwise_iff_getElem.1 HOK.out.up i j a1 c1 hij
          rwa [a2, c2] at this
        have hto : ∀ r ∈ ns, r.l.to = 0 ∨ r.l.to = 1 := fun r hr => (HOK.out.each r.l (by rw [← HN5.out]; exact List.mem_map_of_mem hr)).1
        have bw0 : Below wr.heap.size wr W0 := br7.trans (b70.mono br7.size)
        have b50 : Below w5.heap.size w5 W0 := b57.trans (b70.mono b57.size)
        have FB : Hid (∀ W, Out (fun g => g = (w5.heap.size + 1)) W0 W → W.heap[w5.heap.size]? = some (.cells #[vf] 45 (0, 0)) ∧ W.heap[w.heap.size]? = some (.cells #[.bool false] 4 (0, 0)) ∧ RowL W vf ns) := hide fun W hO => by
          have s0 := bw0.size
          have q1 : W0.heap[w5.heap.size]? = some (.cells #[vf] 45 (0, 0)) := (b70.block w5.heap.size (by omega)).trans HB6.out
          have q2 : W0.heap[w.heap.size]? = some (.cells #[.bool false] 4 (0, 0)) := (bw0.block w.heap.size (by omega)).trans ((bel.block w.heap.size hRl).trans HBR.out)
          have q3 := HC5.out.below b50
          refine ⟨(hO.block _ (blk_lt q1) (by omega)).trans q1, (hO.block _ (blk_lt q2) (by omega)).trans q2, q3.rowl.1.agree fun g hg => hO.block g (q3.1.lt g hg).2 ?_, fun r hr => ((q3.2.1 r hr).is).agree fun g hg => hO.block g ((q3.2.1 r hr).block g hg).2 ?_⟩
          · have := (HC5.out.1.lt g hg).2
            omega
          · have := ((HC5.out.2.1 r hr).block g hg).2
            omega
        have S6 : W0.heap[w5.heap.size + 1]? = some (.cells #[.int .i64 0] 3 (0, 0)) := by rw [← z6]; exact (b70.block w6.heap.size (by omega)).trans HB7.out
        have HS6 := hide S6
        have SQL := hide sq.lt
        have HSEQ := hide (all_seq 5 (by omega) B w7.heap.size zs W0 sq (by omega))
        have l6 : (w5.heap.size + 1) < W0.heap.size := blk_lt S6
        have HZA := hide hza
        have HUP := hide hup
        have HTO := hide hto
        have HNL := hide hnl
        clear sq S6 hza hup hto XA hnl
        go_wp2_with fail
        refine (wpIn_wide (n := 6)).1 ?_
        apply wpIn_rangeFunc_ownF rfl (by omega) (gf := 43) (lb := #[.pointer (some ⟨B, 0, none⟩)]) rfl trivial (enters_of Try.func43 (by kernel_rfl) rfl) (encs := fun x : Nx zs.length => #[nxv zs x.1]) (Kp := Kn (SeqB B W0)) (S := fun xs => xs = upn zs.length zs.length) (Sp := fun pre => ∃ k, k ≤ zs.length ∧ pre = upn zs.length k) (N := zs.length) (w0 := W0) HSEQ.out Kn.trans (kn_b (fun g hg => (SQL.out g hg).2)) (Below.refl _ _) (fun _ => rfl)
          (fun pre W => pre = upn zs.length pre.length ∧ W.heap[(w5.heap.size + 1)]? = some (.cells #[.int .i64 (pre.length : Int)] 3 (0, 0)) ∧ Out (fun g => g = (w5.heap.size + 1)) W0 W)
          (fun c pre W => ¬ ∃ k, k ≤ zs.length ∧ pre = upn zs.length k)
          (fun s A B row hs hg hr => ⟨hs.1, (hg.block _ (blk_lt hs.2.1) fun e => by have := (hr _ e.symm).1; omega).trans hs.2.1, hs.2.2.trans (Out.of_grown (F := fun g => row = some g) hg fun g h => h) fun g h => .inr (hr g h).1⟩)
          (fun c s A B row hs hg hr => hs)
          ⟨rfl, HS6.out, Out.refl _ _⟩
        case hassign =>
          intro l0 x W K hK
          gi_wp2
          exact hK
        case hbody =>
          rintro l0 pre x W ⟨hpre, h8, hO⟩ hlt0
          obtain ⟨f5, fR, rowW⟩ := FB.out W hO
          obtain ⟨j, hj⟩ : ∃ j, pre.length = j := ⟨_, rfl⟩
          rw [hj] at hpre h8 hlt0
          have hnl := HNL.out
          obtain ⟨bf, of, cq, hvq, _, _, _, hcl⟩ := rowW.full (by omega)
          obtain ⟨r, hr⟩ : ∃ r, ns[j]? = some r := ⟨ns[j], by rw [List.getElem?_eq_getElem]⟩
          obtain ⟨r0, r1, _⟩ := hcl j r hr
          have c8 := blk_cell h8 0 rfl
          have f8 := blk_froz h8 0
          have c5 := blk_cell f5 0 rfl
          have cR := blk_cell fR 0 rfl
          have gR := blk_froz fR 0
          rw [hvq] at c5
          have hzr := HZA.out j r hr
          obtain ⟨z, hz⟩ : ∃ z, zs[x.1]?.getD 0 = z := ⟨_, rfl⟩
          have hzx : zs[x.1]? = some z := by rw [List.getElem?_eq_getElem x.2] at hz ⊢; simpa using hz
          have hj0 : (0 : Int) ≤ (j : Int) := by omega
          have hjl : (j : Int) < ns.length := by omega
          have hto := HTO.out r (List.mem_of_getElem? hr)
          have HH8 := hide h8
          have HHO := hide hO
          have hwr : IntKind.i64.wrap ((j : Int) + 1) = (j : Int) + 1 := wrap64s _ (by omega) (by omega)
          dsimp only [nxv]
          rw [hz]
          by_cases hx : x.1 = j
          · have hzz : z = r.n := by rw [hx, hzr] at hzx; simpa using hzx.symm
            subst hzz
            have hxe : pre ++ [x] = upn zs.length (j + 1) := by
              rw [upn_next _ j (by omega), hpre]
              congr 2
              exact Subtype.ext hx
            have KI : Hid (Kn (SeqB B W0) W (W.setCell ⟨w5.heap.size + 1, 0, none⟩ (.int .i64 ((j : Int) + 1))) ∧ (pre ++ [x] = upn zs.length (pre ++ [x]).length ∧ (W.setCell ⟨w5.heap.size + 1, 0, none⟩ (.int .i64 ((j : Int) + 1))).heap[(w5.heap.size + 1)]? = some (.cells #[.int .i64 (((pre ++ [x]).length : Nat) : Int)] 3 (0, 0)) ∧ Out (fun g => g = (w5.heap.size + 1)) W0 (W.setCell ⟨w5.heap.size + 1, 0, none⟩ (.int .i64 ((j : Int) + 1))))) := hide (by
              have hlen : (pre ++ [x]).length = j + 1 := by rw [hxe, upn_len _ _ (by omega)]
              refine ⟨fun g hg => Below.heap_setCell _ _ _ _ ?_, by rw [hlen]; exact hxe, ?_, hO.trans (Out.of_grown (F := fun g => g = (w5.heap.size + 1)) (grown_setCell W ⟨(w5.heap.size + 1), 0, none⟩ _) fun g hg => by simp at hg; exact hg.symm) fun g hg => .inl hg⟩
              · have := (SQL.out g hg).1
                show g ≠ (w5.heap.size + 1)
                omega
              · rw [set_cells h8, hlen]
                simp)
            have hto' : r.to = 0 ∨ r.to = 1 := hto
            by_cases hj1 : j = 0
            · have hjn : ¬ (0 : Int) < (j : Int) := by omega
              have hjb : decide ((0 : Int) < (j : Int)) = false := by simp; omega
              clear hcl hr h8 hO f5 fR rowW hto hzr hzx hz hxe hj1 hpre
              rcases hto' with h01 | h01
              · rw [h01] at r1
                gi_wp2
                exact ⟨KeepsOthers.setCell _ _ _, KI.out⟩
              · rw [h01] at r1
                gi_wp2
                exact ⟨KeepsOthers.setCell _ _ _, KI.out⟩
            · obtain ⟨i, hi⟩ : ∃ i, j = i + 1 := ⟨j - 1, by omega⟩
              obtain ⟨r', hr'⟩ : ∃ r', ns[i]? = some r' := ⟨ns[i], by rw [List.getElem?_eq_getElem]⟩
              obtain ⟨p0, _, _⟩ := hcl i r' hr'
              have hlow := HUP.out i j _ _ (by omega) (HZA.out i r' hr') hzr
              have hge : ¬ r.n ≤ r'.n := by omega
              have hjb : (0 : Int) < (j : Int) := by omega
              have hsub : IntKind.i64.wrap ((j : Int) - 1) = (i : Int) := by rw [wrap64s _ (by omega) (by omega)]; omega
              have hi0 : (0 : Int) ≤ (i : Int) := by omega
              have hil : (i : Int) < ns.length := by omega
              clear hcl hr hr' h8 hO f5 fR rowW hto hzr hzx hz hxe hj1 hlow hi hpre
              rcases hto' with h01 | h01
              · rw [h01] at r1
                gi_wp2
                exact ⟨KeepsOthers.setCell _ _ _, KI.out⟩
              · rw [h01] at r1
                gi_wp2
                exact ⟨KeepsOthers.setCell _ _ _, KI.out⟩
          · have hzz : (r.n == z) = false := by
              simp only [beq_eq_false_iff_ne, ne_eq]
              intro e
              rcases Nat.lt_or_gt_of_ne hx with h1 | h1
              · have := HUP.out _ _ _ _ h1 hzx hzr; omega
              · have := HUP.out _ _ _ _ h1 hzr hzx; omega
            have hbad : ¬ ∃ k, k ≤ zs.length ∧ pre ++ [x] = upn zs.length k := by
              rintro ⟨k, hk1, hk2⟩
              have hl1 := congrArg List.length hk2
              rw [List.length_append, upn_len _ k hk1, hj] at hl1
              simp only [List.length_singleton] at hl1
              rw [← hl1, upn_next _ j (by omega), hpre] at hk2
              have := List.append_cancel_left hk2
              simp at this
              exact hx (by rw [this])
            have hzn : ¬ r.n = z := by simpa using hzz
            clear hcl hr h8 hO f5 fR rowW hto hzr hzx hz hpre
            gi_wp2
            exact ⟨KeepsOthers.setCell _ _ _, hbad⟩
        case hdone =>
          rintro D xs W hD rfl ⟨_, h8, hO⟩ hK
          rw [upn_len _ _ (Nat.le_refl _)] at h8
          obtain ⟨f5, fR, rowW⟩ := FB.out W hO
          have hnl := HNL.out
          have s0 := bw0.size
          have I2 : Hid (FM w2.heap.size w2.heap.size w5.heap.size D w2 W st vf ns) := hide (by
            obtain ⟨F, k1, k2⟩ := HS.out
            have hlt := k1.lt
            have kW0 := k1.below bw0
            refine ⟨F, kW0.out hO fun g hg e => ?_, k2, f5, fun hg => ?_, ?_, fun b hb hg => ?_, fun hg => ?_, hK, (bel.trans (bw0.mono sz)).trans (hO.below (fun g hg => by omega) (by omega)), rfl, by omega, fun r hr => (rowW.2 r hr).form, HN5.out, HOK.out⟩
            · have := hlt g hg; omega
            · have := hlt _ hg; omega
            · have q := (HC5.out.below b50).1
              refine (q.agree (w' := W) fun g hg => hO.block g (q.lt g hg).2 ?_).rebase sz
              have := (HC5.out.1.lt g hg).2
              omega
            · have h1 := (HC5.out.1.lt b hb).1
              have := hlt _ hg
              omega
            · have := hlt _ hg; omega)
          have c8 := blk_cell h8 0 rfl
          have c5 := blk_cell f5 0 rfl
          obtain ⟨av, cv, hvw, _, _⟩ := rowW.1.shape
          rw [hvw, hnl] at c5
          have hzi : ¬ (512 : Int) < (zs.length : Int) := by omega
          have hzb : decide ((512 : Int) < (zs.length : Int)) = false := by simp; omega
          clear f5 fR rowW h8 hO hK HSEQ SQL HZA HUP HTO
          go_wp2
          obtain ⟨we, rfl⟩ : ∃ x, x = wr := ⟨wr, rfl⟩
          go_loopw [10] (fun _ wq => ∃ st vf fs, Hid (FM w2.heap.size w2.heap.size w5.heap.size D w2 wq st vf fs)) (fun _ wq => boxLen w5.heap.size wq)
          case atStart => exact ⟨st, vf, ns, I2⟩
          case round =>
            obtain ⟨st', vf', fs, HF⟩ := hrel
            have hmz := HF.out.len
            obtain ⟨F, hF⟩ := HF.out
            have fR := (hF.bel.block w.heap.size hRl).trans HBR.out
            have cR := blk_cell fR 0 rfl
            have gR := blk_froz fR 0
            have hfl : fs.length ≤ 512 := by
              have h1 := congrArg List.length hF.same
              rw [List.length_map] at h1
              have := hF.ok.len
              omega
            by_cases h0 : 0 < fs.length
            · obtain ⟨g, cq, hvq, hcq, hmq, _⟩ := hF.row.form h0
              subst hvq
              have c5 := blk_cell hF.box 0 rfl
              have PA := hide (pickx_any order fs.length wr (by omega) (by omega) hi64)
              obtain ⟨q0, q1⟩ := pk_lt order fs.length (by omega)
              obtain ⟨i, hi⟩ : ∃ i : Nat, pk order fs.length = i := ⟨(pk order fs.length).toNat, by omega⟩
              rw [hi] at PA q0 q1
              obtain ⟨r, hr⟩ : ∃ r, fs[i]? = some r := ⟨fs[i], by rw [List.getElem?_eq_getElem]⟩
              have e0 : wr.cell? ⟨g, i * 3, none⟩ = some (.int .i64 r.n) := by simpa using hF.row.at letc_len hr (j := 0) rfl
              have hx : st'.fl[i]? = some r.l := by rw [← hF.same, List.getElem?_map, hr]; rfl
              have XD : Hid (Calls Try.prog 13 #[.pointer (some ⟨w2.heap.size, 0, none⟩), .int .i64 r.n] wr fun E w4 => E = .returned (.int .i64 0) ∧ ∃ v1 v2 w5', (∀ wx, (Instr.slice 45 (.slice (some ⟨g, 0, none⟩) fs.length cq) none (some (.int .i64 i)) none).run Try.prog wx = .ok v1 wx) ∧ (∀ wx, (Instr.slice 45 (.slice (some ⟨g, 0, none⟩) fs.length cq) (some (.int .i64 ((i : Int) + 1))) none none).run Try.prog wx = .ok v2 wx) ∧ w4.alloc (.cells #[] 31) = w5' ∧ w4.cell? ⟨w5.heap.size, 0, none⟩ = some (.slice (some ⟨g, 0, none⟩) fs.length cq) ∧ w5'.cell? ⟨w5.heap.size, 0, none⟩ = some (.slice (some ⟨g, 0, none⟩) fs.length cq) ∧
                  Hid (∀ ty, ∃ v' w', (Builtin.append_ #[45, 45] ty #[.slice (some ⟨w4.heap.size, 0, none⟩) 0 0, v1]).run Try.prog w5'.drew = .ok v' w' ∧ (OwnG letc 3 31 w4.heap.size w' v' (fs.take i) ∧ Below w4.heap.size w4 w' ∧ w'.cell? ⟨w5.heap.size, 0, none⟩ = some (.slice (some ⟨g, 0, none⟩) fs.length cq) ∧ ∃ a n c, v' = .slice a n c)) ∧
                  Hid (∀ v6 w6, OwnG letc 3 31 w4.heap.size w6 v6 (fs.take i) → Below w4.heap.size w4 w6 → ∀ ty, ∃ v' w', (Builtin.append_ #[45, 45] ty #[v6, v2]).run Try.prog w6 = .ok v' w' ∧ (FM w2.heap.size w2.heap.size w5.heap.size D w2 (w'.setCell ⟨w5.heap.size, 0, none⟩ v') ⟨st'.last, st'.fl.eraseIdx i⟩ v' (fs.eraseIdx i) ∧ w'.cell? ⟨w5.heap.size, 0, none⟩ = some (.slice (some ⟨g, 0, none⟩) fs.length cq) ∧ w'.frozen? ⟨w5.heap.size, 0, none⟩ = false ∧ ∃ a n c, v' = .slice a n c))) := hide (by
                refine (hF.drop hx).mono ?_
                rintro E w4 ⟨rfl, F', k1, k2, k3, k4, k5, k6, k7, k8, k9⟩
                exact ⟨rfl, fl_step hF hx k1 k2 k3 k4 k6 k7 k8 k9 hfl⟩)
              have hw1 : IntKind.i64.wrap ((i : Int) + 1) = (i : Int) + 1 := wrap64s _ (by omega) (by omega)
              have hel : (fs.eraseIdx i).length < fs.length := by rw [List.length_eraseIdx, if_pos (by omega)]; omega
              have HEL := hide hel
              have HMZ := hide hmz
              have h0' : (0 : Int) < (fs.length : Int) := by omega
              clear hF HF fR hx hr hi hel hmz
              go_wp2_with fail
              refine PA.out.mono ?_
              rintro E wv ⟨rfl, rfl⟩
              go_wp2_with fail
              refine XD.out.mono ?_
              rintro E w4 ⟨rfl, v1, v2, w5', s1, s2, hw5', c4, c5', A1, A2⟩
              clear XD PA e0
              go_wp2_with fail
              go_region_law (first
                | (have hp := A6; refine step_append_at rfl (.tmp 145) (.tmp 149) 45 rfl (.slice a6 n6 c6') v2 (by first | (simp [Act.eval]; done) | (simp [Act.eval, Act.put]; done)) (by first | (simp [Act.eval]; done) | (simp [Act.eval, Act.put]; done)) (A2.out _ w6' A6.out b6') ?_; rintro v7 w7' ⟨J, d7, g7, a7, n7, c7', rfl⟩; have J := hide J)
                | (refine step_append_at rfl (.tmp 141) (.tmp 144) 45 rfl (.slice (some ⟨w4.heap.size, 0, none⟩) 0 0) v1 (by first | (simp [Act.eval]; done) | (simp [Act.eval, Act.put]; done)) (by first | (simp [Act.eval]; done) | (simp [Act.eval, Act.put]; done)) A1.out ?_; rintro v6 w6' ⟨A6', b6', d6, a6, n6, c6', rfl⟩; have A6 := hide A6'; clear A6'))
              all_goals
                go_wp2
                go_roundw
                case rel => exact ⟨_, _, _, J⟩
                case measure =>
                  have h1 := J.out.len
                  have h2 := HEL.out
                  have h3 := HMZ.out
                  omega
            · have hfe : fs = [] := List.eq_nil_of_length_eq_zero (by omega)
              subst hfe
              have hst : st'.fl = [] := by rw [← hF.same]; rfl
              obtain ⟨aq, cq, hvq, _, _⟩ := hF.row.row.shape
              have c5 := blk_cell hF.box 0 rfl
              rw [hvq] at c5
              have XF2 : Hid (Calls Try.prog 20 #[.pointer (some ⟨w2.heap.size, 0, none⟩)] wr fun E w8 => ∃ a c, E = .returned (.slice a 0 c) ∧ w8.cell? ⟨w.heap.size, 0, none⟩ = some (.bool false) ∧ w8.frozen? ⟨w.heap.size, 0, none⟩ = false ∧ Hid (w8.heap[w.heap.size]? = some (.cells #[.bool false] 4 (0, 0)) ∧ w8.heap[D]? = some (.deferred (some [])) ∧ Below w2.heap.size w2 w8)) := hide (by
                refine (flight_any _ F wr st' hF.lk hF.ok).mono ?_
                rintro E w8 ⟨v8, ns8, rfl, cp8, hm8, b8⟩
                rw [hst] at hm8
                have hn8 : ns8 = [] := by simpa using hm8
                subst hn8
                obtain ⟨a8, c8, hv8, _⟩ := cp8.1.row.shape
                have q := (b8.block w.heap.size (blk_lt fR)).trans fR
                exact ⟨a8, c8, by rw [hv8]; rfl, blk_cell q 0 rfl, blk_froz q 0, hide ⟨q, (b8.block D (blk_lt hF.dfr)).trans hF.dfr, hF.bel.trans (b8.mono hF.size)⟩⟩)
              have hdl : w2.heap.size ≤ D := by omega
              clear hF HF fR hst hvq hmz
              go_wp2_with fail
              refine XF2.out.mono ?_
              rintro E w8 ⟨a8, c8, rfl, p8, f8, H8⟩
              clear XF2 c5 cR gR
              go_wp2
              obtain ⟨r9, t9, b9⟩ := H8.out
              have tD : (w8.setCell ⟨w.heap.size, 0, none⟩ (.bool true)).heap[D]? = some (.deferred (some [])) := (Below.heap_setCell w8 ⟨w.heap.size, 0, none⟩ _ D (by show D ≠ w.heap.size; omega)).trans t9
              refine ⟨by simp, .inl ⟨_, _, rfl, run_takeDeferred tD, ?_⟩⟩
              have g1 := grown_setCell w8 ⟨w.heap.size, 0, none⟩ (.bool true)
              have g2 := grownBy_putObj' (w8.setCell ⟨w.heap.size, 0, none⟩ (.bool true)) D (.deferred none)
              have c9 := set_cells r9 0 (.bool true)
              have l9 := blk_lt r9
              have p9 := (g2.block w.heap.size (by have := g1.size; omega) (by simp; omega)).trans c9
              have u9 := blk_cell p9 0 rfl
              refine ⟨.bool true, ?_, rfl, ?_⟩
              · simp [results, Try.results7, go_sem, u9]
              · have B9 : Below w.heap.size w w8 := b02.trans (b9.mono (by omega))
                have z9 := B9.size
                have s1' := g1.size
                exact (B9.grown g1 z9 fun k e => by simp at e; omega).grown g2 (by omega) fun k e => by simp at e; omega
        case hstop =>
          rintro D c pre W hD ⟨k, hk1, hk2⟩ h1 hK
          exact absurd ⟨k, hk1, hk2⟩ h1

end Go.Proofs.Ytadfbmglbaebiaa
