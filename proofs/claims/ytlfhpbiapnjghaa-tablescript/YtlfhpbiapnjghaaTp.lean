/- The document's table: Apply, All, Live, Get. -/
import Derived.Test.YtlfhpbiapnjghaaTo
namespace Go.Proofs.Ytlfhpbiapnjghaa
open Go.RowKit
open Bm (Ov)
set_option linter.unusedVariables false

set_option maxHeartbeats 2000000 in
theorem applyR_any (r base : Nat) (w : World) (v vl : Value) (t l : List Ov) (h : Dt r base w v t) (hu : Tm.Up t) (hl : IsO w vl l) (hne : 0 < l.length → ∀ b, vl.ownBlock = some b → b ≠ r) (hf : FitO l) (hn : t.length + l.length ≤ 1000000) (hb : base ≤ w.heap.size) :
    Calls Try.prog 20 #[.pointer (some ⟨r, 0, none⟩), vl] w fun E w' => E = .returned (.int .i64 (Bm.first l)) ∧ (∃ v', Dt r base w' v' (Tm.aft t l) ∧ ∀ g, v'.ownBlock = some g → v.ownBlock = some g ∨ w.heap.size ≤ g) ∧ Out (fun g => g = r) w w' := by
  have HM := hide (noneR_any r w h.made)
  obtain ⟨ao, cap, hsv, hcap, hcm⟩ := hl.shape
  have HFULL := hide fun (h0 : 0 < l.length) => hl.full h0
  subst hsv
  have HF := hide hf
  have HT0 := hide h
  have HU := hide hu
  obtain ⟨n, hnn⟩ : ∃ n, l.length = n := ⟨_, rfl⟩
  rw [hnn] at HFULL hcap hn ⊢
  have HN := hide hnn
  have hrlt := h.lt
  clear hl hf h hnn hu
  go_enter Try.func20, Try.ntmps20
  go_wp2_with fail
  refine HM.out.mono ?_
  rintro E w' ⟨rfl, rfl⟩
  go_wp2
  go_loopw [5] (fun i wr => ∃ (k : Nat), k ≤ n ∧ i = .int .i64 k ∧ Hid (∀ q ∈ l.take k, q.c = 0) ∧ Below w.heap.size w wr) (fun i _ => n - (intOf i).toNat)
  case atStart => exact ⟨0, by omega, rfl, hide (by simp), Below.refl _ _⟩
  case round =>
    obtain ⟨k, hk, rfl, HT, bel⟩ := hrel
    obtain ⟨wa, rfl⟩ : ∃ x, x = wr := ⟨wr, rfl⟩
    have sz := bel.size
    by_cases hlt : k < n
    · obtain ⟨o, ho⟩ : ∃ o, l[k]? = some o := ⟨l[k]'(by have := HN.out; omega), by rw [List.getElem?_eq_getElem]⟩
      obtain ⟨b1, o1, cq, hvx, _, _, hB, hcell⟩ := HFULL.out (by omega)
      simp only [Value.slice.injEq, true_and] at hvx
      obtain ⟨rfl, rfl⟩ := hvx
      obtain ⟨c0, c1, c2⟩ := hcell k o ho
      have d0 := (bel.cell (p := ⟨b1, o1 + k * 3, none⟩) hB).trans c0
      have d1 := (bel.cell (p := ⟨b1, o1 + k * 3 + 1, none⟩) hB).trans c1
      have d2 := (bel.cell (p := ⟨b1, o1 + k * 3 + 2, none⟩) hB).trans c2
      have HO := hide ho
      clear c0 c1 c2 ho hcell
      have hlt' : (k : Int) < n := by omega
      obtain ⟨hk1, hv1⟩ := HF.out o (List.mem_of_getElem? HO.out)
      go_wp2_with fail
      refine (checkR_any o.p o.k o.v _ hk1 hv1).mono ?_
      rintro E w1 ⟨rfl, bel1⟩
      have bel2 : Below w.heap.size w w1 := bel.trans (bel1.mono (by omega))
      clear bel1 d0 d1 d2
      rcases (show Om.chk o.p o.k.data.toList o.v.data.toList = 0 ∨ _ from Om.chk_two _ _ _) with hc | hc
      · rw [hc]
        have HT2 := hide (first_take HT.out HO.out hc)
        clear hc
        go_wp2
        go_roundw
        case rel => exact ⟨k + 1, by omega, by go_num, HT2, bel2⟩
        case measure => simp [intOf]; omega
      · rw [hc]
        have HB := hide (Bm.first_bad (List.mem_of_getElem? HO.out) (show Bm.Ov.c o ≠ 0 by unfold Bm.Ov.c Bm.Ov.kl Bm.Ov.vl; rw [hc]; simp))
        clear hc
        go_wp2
        go_ret
        refine ⟨ret_i64 HB.out.symm, ?_, Out.of_below bel2⟩
        unfold Tm.aft
        rw [HB.out]
        exact ⟨_, HT0.out.below bel2, fun g hg => .inl hg⟩
    · have hkn : k = n := by omega
      have HB : Hid (Bm.first l = 0) := hide (Bm.first_all (fun q hq => HT.out q (by rw [List.take_of_length_le (by have := HN.out; omega)]; exact hq)))
      have hlt' : ¬ (k : Int) < n := by omega
      have HT1 := hide (HT0.out.below bel)
      have HBEL := hide bel
      clear bel
      go_wp2
      go_loopw [6] (fun i wr => ∃ (k : Nat), k ≤ n ∧ i = .int .i64 k ∧ Hid (∃ v', Dt r base wr v' (Tm.app t (l.take k)) ∧ ∀ g, v'.ownBlock = some g → v.ownBlock = some g ∨ w.heap.size ≤ g) ∧ Out (fun g => g = r) w wr) (fun i _ => n - (intOf i).toNat)
      case atStart => exact ⟨0, by omega, rfl, hide ⟨_, HT1.out, fun g hg => .inl hg⟩, Out.of_below HBEL.out⟩
      case round =>
        obtain ⟨k, hk, rfl, HT, bel⟩ := hrel
        have sz := bel.size
        by_cases hlt : k < n
        · obtain ⟨o, ho⟩ : ∃ o, l[k]? = some o := ⟨l[k]'(by have := HN.out; omega), by rw [List.getElem?_eq_getElem]⟩
          obtain ⟨b1, o1, cq, hvx, _, _, hB, hcell⟩ := HFULL.out (by omega)
          simp only [Value.slice.injEq, true_and] at hvx
          obtain ⟨rfl, rfl⟩ := hvx
          obtain ⟨c0, c1, c2⟩ := hcell k o ho
          have hblk := bel.block b1 hB (hne (by have := HN.out; omega) b1 rfl)
          have d0 := (cell_of_blk' hblk (o1 + k * 3)).trans c0
          have d1 := (cell_of_blk' hblk (o1 + k * 3 + 1)).trans c1
          have d2 := (cell_of_blk' hblk (o1 + k * 3 + 2)).trans c2
          have HO := hide ho
          clear c0 c1 c2 ho hcell hblk
          have hlt'' : (k : Int) < n := by omega
          obtain ⟨v1, D1, _⟩ := HT.out
          have hlen : (Tm.app t (l.take k)).length ≤ 1000000 := by
            have h1 := Tm.app_len (l.take k) t
            rw [List.length_take] at h1
            omega
          have X := hide (oneR_any r base wr v1 _ o D1 (Tm.up_app _ HU.out) hlen (by omega))
          unfold ovv at X
          have HBE := hide bel
          clear D1 hlen bel
          go_wp2_with fail
          refine X.out.mono ?_
          rintro E w2 ⟨⟨u, rfl⟩, ⟨v2, D2, hg2⟩, O2⟩
          have R2 : Hid (∃ v', Dt r base w2 v' (Tm.app t (l.take (k + 1))) ∧ ∀ g, v'.ownBlock = some g → v.ownBlock = some g ∨ w.heap.size ≤ g) := hide ⟨v2, by
            obtain ⟨hk', hk2⟩ := List.getElem?_eq_some_iff.1 HO.out
            rw [List.take_succ_eq_append_getElem hk', hk2, Tm.app_snoc]
            exact D2, fun g hg => .inr (by have := hg2 g hg; omega)⟩
          have R3 := hide (HBE.out.trans O2 fun g hg => .inl hg)
          clear D2 O2 X hg2
          go_wp2
          go_roundw
          case rel => exact ⟨k + 1, by omega, by go_num, R2, R3.out⟩
          case measure => simp [intOf]; omega
        · have hlt'' : ¬ (k : Int) < n := by omega
          have HE : Hid (∃ v', Dt r base wr v' (Tm.aft t l) ∧ ∀ g, v'.ownBlock = some g → v.ownBlock = some g ∨ w.heap.size ≤ g) := hide (by
            have h1 := HT.out
            rw [List.take_of_length_le (by have := HN.out; omega)] at h1
            unfold Tm.aft
            rw [HB.out]
            exact h1)
          go_wp2
          go_ret
          exact ⟨ret_i64 HB.out.symm, HE.out, bel⟩

set_option maxHeartbeats 1000000 in
theorem allR_any (r base : Nat) (w : World) (v : Value) (t : List Ov) (h : Dt r base w v t) (hn : t.length ≤ 1000000) :
    Calls Try.prog 25 #[.pointer (some ⟨r, 0, none⟩)] w fun E w' => ∃ u, E = .returned u ∧ OwnO 28 w.heap.size w' u t ∧ Below w.heap.size w w' := by
  have HM := hide (noneR_any r w h.made)
  have hc := h.list
  have his := h.own.is
  obtain ⟨ao, cap, hsv, _, _⟩ := his.shape
  subst hsv
  have hlen : (([] : List Ov).length + t.length) * 40 ≤ 140737488355328 := by show (0 + t.length) * 40 ≤ _; omega
  have own0 := OwnO.nil 28 w.heap.size w
  clear h
  go_enter Try.func25, Try.ntmps25
  go_wp2_with fail
  refine HM.out.mono ?_
  rintro E w' ⟨rfl, rfl⟩
  go_wp2_with (at_builtin; refine wpList_append_ops rfl (.tmp 7) (.tmp 11) 33 rfl 28 w.heap.size Try.underlying33 Try.info28 _ [] rfl own0 _ t rfl his hlen (Nat.le_refl _) ?_)
  rintro v1 w1 ho1 hb1 _
  have HO := hide ho1
  have HB := hide hb1
  clear ho1 hb1 hlen his own0
  go_wp2
  go_ret
  exact ⟨_, rfl, HO.out, HB.out⟩

theorem live_snoc {t : List Ov} {k : Nat} {o : Ov} (h : t[k]? = some o) : Tm.live (t.take (k + 1)) = if o.p then Tm.live (t.take k) ++ [o] else Tm.live (t.take k) := by
  obtain ⟨h1, rfl⟩ := List.getElem?_eq_some_iff.1 h
  rw [List.take_succ_eq_append_getElem h1, live_app]
  cases hp : (t[k]).p <;> simp [Tm.live, hp]

set_option maxHeartbeats 1000000 in
theorem liveR_any (r base : Nat) (w : World) (v : Value) (t : List Ov) (h : Dt r base w v t) (hn : t.length ≤ 1000000) :
    Calls Try.prog 34 #[.pointer (some ⟨r, 0, none⟩)] w fun E w' => ∃ u, E = .returned u ∧ OwnO 28 w.heap.size w' u (Tm.live t) ∧ Below w.heap.size w w' := by
  have X := hide (allR_any r base w v t h hn)
  clear h
  go_enter Try.func34, Try.ntmps34
  go_wp2_with fail
  refine X.out.mono ?_
  rintro E w1 ⟨u, rfl, ho, b1⟩
  obtain ⟨ao, cap, hsv, _, _⟩ := ho.is.shape
  have HFULL := hide fun (h0 : 0 < t.length) => ho.is.full h0
  subst hsv
  obtain ⟨n, hnn⟩ : ∃ n, t.length = n := ⟨_, rfl⟩
  rw [hnn] at HFULL hn ⊢
  have HN := hide hnn
  have Hb1 := hide b1
  clear ho hnn b1
  go_wp2
  go_loopw [5, 3] (fun i ov wr => ∃ (k : Nat), k ≤ n ∧ i = .int .i64 k ∧ Hid (OwnO 28 w1.heap.size wr ov (Tm.live (t.take k))) ∧ Below w1.heap.size w1 wr) (fun i _ _ => n - (intOf i).toNat)
  case atStart => exact ⟨0, by omega, rfl, hide (OwnO.nil _ _ _), Below.refl _ _⟩
  case round =>
    obtain ⟨k, hk, rfl, HOW, bel⟩ := hrel
    have sz := bel.size
    by_cases hlt : k < n
    · obtain ⟨o, ho⟩ : ∃ o, t[k]? = some o := ⟨t[k]'(by have := HN.out; omega), by rw [List.getElem?_eq_getElem]⟩
      obtain ⟨b1, o1, cq, hvx, _, _, hB, hcell⟩ := HFULL.out (by omega)
      simp only [Value.slice.injEq, true_and] at hvx
      obtain ⟨rfl, rfl⟩ := hvx
      obtain ⟨c0, c1, c2⟩ := hcell k o ho
      have d0 := (bel.cell (p := ⟨b1, o1 + k * 3, none⟩) hB).trans c0
      have d1 := (bel.cell (p := ⟨b1, o1 + k * 3 + 1, none⟩) hB).trans c1
      have d2 := (bel.cell (p := ⟨b1, o1 + k * 3 + 2, none⟩) hB).trans c2
      have hlt' : (k : Int) < n := by omega
      have hsn := live_snoc ho
      clear c0 c1 c2 hcell ho
      cases hp : o.p
      · rw [hp] at d0 hsn
        have HOW2 : Hid (OwnO 28 w1.heap.size wr _ (Tm.live (t.take (k + 1)))) := hide (by rw [hsn]; exact HOW.out)
        clear hsn hp
        go_wp2
        go_roundw
        case rel => exact ⟨k + 1, by omega, by go_num, HOW2, bel⟩
        case measure => simp [intOf]; omega
      · rw [hp] at d0 hsn
        obtain ⟨wb, hwb, szb, bb, ownb⟩ := ops_step 28 wr #[.bool true, .string o.k, .string o.v] 1 [o] rfl (by simp [ocells, ocell, hp]) (by simp [maxLen])
        have ownW := HOW.out.below bb
        have isb := ownb.is
        have hll : (Tm.live (t.take k)).length ≤ 1000000 := by
          have := List.length_filter_le Bm.Ov.p (t.take k)
          rw [List.length_take] at this
          unfold Tm.live
          omega
        obtain ⟨out, hout⟩ : ∃ out, Tm.live (t.take k) = out := ⟨_, rfl⟩
        rw [hout] at ownW hll hsn
        have hlen : (out.length + [o].length) * 40 ≤ 140737488355328 := by show (out.length + 1) * 40 ≤ _; omega
        have HB2 := hide (bel.trans (bb.mono sz))
        have hz := HB2.out.size
        have HSN := hide hsn
        clear hp hsn hout bb ownb bel HOW
        go_wp2_with (at_builtin; refine wpList_append_ops rfl (.tmp 19) (.tmp 24) 33 rfl 28 w1.heap.size Try.underlying33 Try.info28 _ out rfl ownW _ [o] rfl isb hlen hz ?_)
        rintro v1 wc ho1 hb1 _
        have HO2 : Hid (OwnO 28 w1.heap.size wc v1 (Tm.live (t.take (k + 1)))) := hide (by rw [HSN.out]; exact ho1)
        have HB3 := hide (HB2.out.trans hb1)
        clear ho1 hb1 ownW isb hlen d0 d1 d2
        go_wp2
        go_roundw
        case rel => exact ⟨k + 1, by omega, by go_num, HO2, HB3.out⟩
        case measure => simp [intOf]; omega
    · have hlt' : ¬ (k : Int) < n := by omega
      have HE : Hid (OwnO 28 w.heap.size wr _ (Tm.live t)) := hide (by
        have h1 := HOW.out
        rw [List.take_of_length_le (by have := HN.out; omega)] at h1
        exact h1.rebase Hb1.out.size)
      go_wp2
      go_ret
      exact ⟨_, rfl, HE.out, Hb1.out.trans (bel.mono Hb1.out.size)⟩

theorem get_at {t : List Ov} {k : Nat} {o : Ov} (key : ByteArray) (h : ∀ x ∈ t.take k, x.k ≠ key) (ho : t[k]? = some o) (he : o.k = key) : Tm.get t key = some o := by
  obtain ⟨h1, rfl⟩ := List.getElem?_eq_some_iff.1 ho
  obtain ⟨o, hoo⟩ : ∃ o, t[k] = o := ⟨_, rfl⟩
  rw [hoo] at he ⊢
  have : t = t.take k ++ o :: t.drop (k + 1) := by rw [← hoo, ← List.drop_eq_getElem_cons h1, List.take_append_drop]
  unfold Tm.get
  conv => lhs; rw [this]
  rw [List.find?_append]
  have h2 : (t.take k).find? (fun x => decide (x.k = key)) = none := List.find?_eq_none.2 fun x hx => by simpa using h x hx
  rw [h2]
  simp [he]

theorem get_no {t : List Ov} (key : ByteArray) (h : ∀ x ∈ t, x.k ≠ key) : Tm.get t key = none := List.find?_eq_none.2 fun x hx => by simpa using h x hx

set_option maxHeartbeats 1000000 in
theorem getR_any (r base : Nat) (w : World) (v : Value) (t : List Ov) (key : ByteArray) (h : Dt r base w v t) (hn : t.length ≤ 1000000) :
    Calls Try.prog 35 #[.pointer (some ⟨r, 0, none⟩), .string key] w fun E w' => E = .returned (.tuple #[.string (gv t key), .bool (Tm.met t key), .bool (gp t key)]) ∧ ∃ m, w' = w.drewN m := by
  have HM := hide (noneR_any r w h.made)
  have hc := h.list
  have his := h.own.is
  obtain ⟨ao, cap, hsv, _, _⟩ := his.shape
  have HFULL := hide fun (h0 : 0 < t.length) => his.full h0
  subst hsv
  obtain ⟨n, hnn⟩ : ∃ n, t.length = n := ⟨_, rfl⟩
  rw [hnn] at HFULL hn hc
  have HN := hide hnn
  obtain ⟨g1, hg1⟩ : ∃ g, gv t key = g := ⟨_, rfl⟩
  obtain ⟨g2, hg2⟩ : ∃ g, Tm.met t key = g := ⟨_, rfl⟩
  obtain ⟨g3, hg3⟩ : ∃ g, gp t key = g := ⟨_, rfl⟩
  rw [hg1, hg2, hg3]
  have HG : Hid (∀ o, Tm.get t key = some o → g1 = o.v ∧ g2 = true ∧ g3 = o.p) := hide fun o ho => by
    subst hg1 hg2 hg3
    unfold gv gp
    rw [Tm.met_get, ho]
    exact ⟨rfl, rfl, rfl⟩
  have HG0 : Hid (Tm.get t key = none → g1 = ⟨#[]⟩ ∧ g2 = false ∧ g3 = false) := hide fun ho => by
    subst hg1 hg2 hg3
    unfold gv gp
    rw [Tm.met_get, ho]
    exact ⟨rfl, rfl, rfl⟩
  clear h his hnn hg1 hg2 hg3
  go_enter Try.func35, Try.ntmps35
  go_wp2_with fail
  refine HM.out.mono ?_
  rintro E w' ⟨rfl, rfl⟩
  go_wp2
  go_loopw [7] (fun i wr => ∃ (k : Nat), k ≤ n ∧ i = .int .i64 k ∧ Hid (∀ q ∈ t.take k, q.k ≠ key) ∧ wr = w) (fun i _ => n - (intOf i).toNat)
  case atStart => exact ⟨0, by omega, rfl, hide (by simp), rfl⟩
  case round =>
    obtain ⟨k, hk, rfl, HT, rfl⟩ := hrel
    by_cases hlt : k < n
    · obtain ⟨o, ho⟩ : ∃ o, t[k]? = some o := ⟨t[k]'(by have := HN.out; omega), by rw [List.getElem?_eq_getElem]⟩
      obtain ⟨b1, o1, cq, hvx, _, _, hB, hcell⟩ := HFULL.out (by omega)
      simp only [Value.slice.injEq, true_and] at hvx
      obtain ⟨rfl, rfl⟩ := hvx
      obtain ⟨c0, c1, c2⟩ := hcell k o ho
      have hlt' : (k : Int) < n := by omega
      have hk0 : (0 : Int) ≤ (k : Int) := by omega
      clear hcell
      by_cases hke : o.k = key
      · have he : (o.k.toList == key.toList) = true := by rw [Tm.eqk]; simp [hke]
        obtain ⟨rfl, rfl, rfl⟩ := HG.out o (get_at key HT.out ho hke)
        clear ho HG HG0
        go_wp2_with fail
        go_quiet (fail)
        go_wp2
        go_ret3
        exact ⟨rfl, _, rfl⟩
      · have he : (o.k.toList == key.toList) = false := by rw [Tm.eqk]; simp [hke]
        have HT2 : Hid (∀ q ∈ t.take (k + 1), q.k ≠ key) := hide (by
          obtain ⟨h1, rfl⟩ := List.getElem?_eq_some_iff.1 ho
          intro q hq
          rw [List.take_succ_eq_append_getElem h1] at hq
          rcases List.mem_append.1 hq with hq | hq
          · exact HT.out q hq
          · simp at hq
            subst hq
            exact hke)
        clear ho
        go_wp2
        go_roundw
        case rel => exact ⟨k + 1, by omega, by go_num, HT2, trivial⟩
        case measure => simp [intOf]; omega
    · have hlt' : ¬ (k : Int) < n := by omega
      obtain ⟨rfl, rfl, rfl⟩ := HG0.out (get_no key (by
        have h1 := HT.out
        rw [List.take_of_length_le (by have := HN.out; omega)] at h1
        exact h1))
      go_wp2
      go_ret3
      exact ⟨rfl, 0, rfl⟩

end Go.Proofs.Ytlfhpbiapnjghaa
