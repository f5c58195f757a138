/- Texts of one layer, one behind the other. -/
import Derived.Test.YtajlhdmnincehaaGreatDoorM2
import Derived.Test.YtajlhdmnincehaaGreatDoorH3
import Derived.Deep.RegionHeld3
import Derived.Test.YtajlhdmnincehaaGreatDoorH4
/- The contracts of mayBe and of run.Check: which runs may be. -/
namespace Go.Proofs.YtajlhdmnincehaaGreatDoor
open Go.RowKit
open Bm (Ov)
set_option linter.unusedVariables false




/-- '<=' of keys. -/
theorem key_on {a b : ByteArray} (h : Tm.lt b a = true) : Op.bytesLess a.toList b.toList = false ∧ (a.toList == b.toList) = false := by
  rw [Tm.less_lt, Tm.eqk]
  exact ⟨Tm.lt_asy h, by simpa using (Tm.lt_ne h).symm⟩

theorem key_off {a b : ByteArray} (h : Tm.lt b a = false) : (Op.bytesLess a.toList b.toList = true ∧ a ≠ b) ∨ (Op.bytesLess a.toList b.toList = false ∧ (a.toList == b.toList) = true) := by
  rw [Tm.less_lt, Tm.eqk]
  cases hl : Tm.lt a b with
  | true => exact .inl ⟨rfl, Tm.lt_ne hl⟩
  | false => exact .inr ⟨rfl, by simpa using Tm.lt_tot hl h⟩

/-- An op more. -/
theorem may_next {l : List Ov} {k : Nat} {o : Ov} (h : Rn.may ⟨#[]⟩ (l.take k) = true) (ho : l[k]? = some o) (hc : o.c = 0) (hlt : Tm.lt (Rn.lstK ⟨#[]⟩ (l.take k)) o.k = true) : Rn.may ⟨#[]⟩ (l.take (k + 1)) = true ∧ Rn.lstK ⟨#[]⟩ (l.take (k + 1)) = o.k := by
  obtain ⟨h1, rfl⟩ := List.getElem?_eq_some_iff.1 ho
  rw [List.take_succ_eq_append_getElem h1, Rn.may_app, Rn.lstK_snoc, h]
  simp [Rn.may, hc, hlt]

theorem may_stop {l : List Ov} {k : Nat} {o : Ov} (ho : l[k]? = some o) (h : o.c ≠ 0 ∨ Tm.lt (Rn.lstK ⟨#[]⟩ (l.take k)) o.k = false) : Rn.may ⟨#[]⟩ l = false := by
  obtain ⟨h1, rfl⟩ := List.getElem?_eq_some_iff.1 ho
  have e : l = l.take k ++ (l[k] :: l.drop (k + 1)) := by rw [← List.drop_eq_getElem_cons h1, List.take_append_drop]
  have e2 : Rn.may ⟨#[]⟩ l = Rn.may ⟨#[]⟩ (l.take k ++ (l[k] :: l.drop (k + 1))) := congrArg _ e
  rw [e2, Rn.may_app]
  rcases h with h | h <;> simp [Rn.may, h]

set_option maxHeartbeats 1000000 in
theorem hmay_any (v : Value) (l : List Ov) (w : World) (h : IsO w v l) (hf : FitO l) (hl : l.length ≤ 140737488355328) :
    Calls Tryz.prog 316 #[v] w fun E w' => E = .returned (.bool (Rn.may ⟨#[]⟩ l)) ∧ Below w.heap.size w w' := by
  obtain ⟨ans, hans⟩ : ∃ x, Rn.may ⟨#[]⟩ l = x := ⟨_, rfl⟩
  rw [hans]
  have HA := hide hans
  obtain ⟨ao, cap, hsv, hcap, _⟩ := h.shape
  have HFULL := hide fun (h0 : 0 < l.length) => h.full h0
  subst hsv
  have HF := hide hf
  obtain ⟨n, hnn⟩ : ∃ n, l.length = n := ⟨_, rfl⟩
  rw [hnn] at HFULL hcap hl ⊢
  have HN := hide hnn
  clear h hf hnn hans
  go_enter Tryz.func316, Tryz.ntmps316
  go_wp2
  go_loopw [3, 8] (fun av i wr => ∃ (k : Nat) (ah : ByteArray), k ≤ n ∧ i = .int .i64 k ∧ av = .string ah ∧ Hid (Rn.may ⟨#[]⟩ (l.take k) = true ∧ Rn.lstK ⟨#[]⟩ (l.take k) = ah) ∧ Below w.heap.size w wr) (fun _ i _ => n - (intOf i).toNat)
  case atStart => exact ⟨0, ⟨#[]⟩, by omega, rfl, rfl, hide ⟨by simp [Rn.may], by simp [Rn.lstK]⟩, Below.refl _ _⟩
  case round =>
    obtain ⟨k, ah, hk, rfl, rfl, HT, bel⟩ := hrel
    have sz := bel.size
    by_cases hlt : k < n
    · obtain ⟨o, ho⟩ : ∃ o, l[k]? = some o := ⟨l[k]'(by have := HN.out; omega), by rw [List.getElem?_eq_getElem]⟩
      obtain ⟨b1, o1, cq, hvx, _, _, hB, hcell⟩ := HFULL.out (by omega)
      simp only [Value.slice.injEq, true_and] at hvx
      obtain ⟨rfl, rfl⟩ := hvx
      obtain ⟨c0, c1, c2⟩ := hcell k o ho
      have d0 := (bel.cell (p := ⟨b1, o1 + k * 3, none⟩) hB).trans c0
      have d1 := (bel.cell (p := ⟨b1, o1 + k * 3 + 1, none⟩) hB).trans c1
      have d2 := (bel.cell (p := ⟨b1, o1 + k * 3 + 2, none⟩) hB).trans c2
      have HO := hide ho
      clear c0 c1 c2 ho hcell
      have hlt' : (k : Int) < n := by omega
      obtain ⟨hk1, hv1⟩ := HF.out o (List.mem_of_getElem? HO.out)
      obtain ⟨W1, hW1, sz1, bW1, B1⟩ := blk_step wr #[.bool o.p, .string o.k, .string o.v] 88
      have e0 := blk_cell B1 0 rfl
      have e1 := blk_cell B1 1 rfl
      have e2 := blk_cell B1 2 rfl
      have b01 : Below w.heap.size w W1 := bel.trans (bW1.mono sz)
      clear B1 bW1
      go_wp2_with fail
      refine (check_any o.p o.k o.v _ hk1 hv1).mono ?_
      rintro E w1 ⟨rfl, bel1⟩
      have bel2 : Below w.heap.size w w1 := b01.trans (bel1.mono (by omega))
      have e1' := (bel1.cell (p := ⟨wr.heap.size, 1, none⟩) (show wr.heap.size < W1.heap.size by omega)).trans e1
      clear bel1 d0 d1 d2 e0 e1 e2
      rcases (show Om.chk o.p o.k.data.toList o.v.data.toList = 0 ∨ _ from Om.chk_two _ _ _) with hc | hc
      · rw [hc]
        have HC := hide (show o.c = 0 from hc)
        clear hc
        cases hlk : Tm.lt ah o.k with
        | true =>
          obtain ⟨q1, q2⟩ := key_on hlk
          have HT2 := hide (may_next HT.out.1 HO.out HC.out (by rw [HT.out.2]; exact hlk))
          clear hlk
          go_wp2
          go_roundw
          case rel => exact ⟨k + 1, o.k, by omega, by go_num, rfl, HT2, bel2⟩
          case measure => simp [intOf]; omega
        | false =>
          have hfo := HA.out
          rw [may_stop HO.out (.inr (by rw [HT.out.2]; exact hlk))] at hfo
          subst hfo
          rcases key_off hlk with ⟨q1, _⟩ | ⟨q1, q2⟩
          · clear hlk
            go_wp2
            go_ret
            exact ⟨rfl, bel2⟩
          · clear hlk
            go_wp2
            go_ret
            exact ⟨rfl, bel2⟩
      · rw [hc]
        have hfo := HA.out
        rw [may_stop HO.out (.inl (show o.c ≠ 0 by unfold Bm.Ov.c Bm.Ov.kl Bm.Ov.vl; rw [hc]; simp))] at hfo
        subst hfo
        clear hc
        go_wp2
        go_ret
        exact ⟨rfl, bel2⟩
    · have hlt' : ¬ (k : Int) < n := by omega
      have hfo := HA.out
      have h1 := HT.out.1
      rw [List.take_of_length_le (by have := HN.out; omega), hfo] at h1
      subst h1
      clear hfo
      go_wp2
      go_ret
      exact ⟨rfl, bel⟩

set_option maxHeartbeats 1000000 in
theorem hcheck_any (e n : Int) (v : Value) (l : List Ov) (w : World) (h : IsO w v l) (hf : FitO l) (hl : l.length ≤ 140737488355328) :
    Calls Tryz.prog 299 #[cmv e n v] w fun E w' => E = .returned (.int .i64 (Rn.chk e n l)) ∧ Below w.heap.size w w' := by
  unfold cmv
  obtain ⟨w1, hw1, sz1, bel1, hB⟩ := blk_step w #[.int .i64 e, .int .i64 n, v] 187
  have c0 := blk_cell hB 0 rfl
  have c1 := blk_cell hB 1 rfl
  have c2 := blk_cell hB 2 rfl
  have HM := hide (hmay_any v l w1 (h.below bel1) hf hl)
  obtain ⟨ao, cap, rfl, _, _⟩ := h.shape
  obtain ⟨ans, hans⟩ : ∃ x, Rn.chk e n l = x := ⟨_, rfl⟩
  rw [hans]
  have HA := hide hans
  have hlz : l.length = l.length := rfl
  by_cases hlong : 1024 < l.length
  · have hfo := HA.out
    rw [Rn.chk_long hlong] at hfo
    subst hfo
    have hlong' : (1024 : Int) < (l.length : Int) := by omega
    generalize l.length = m at *
    clear HA HM h hf hans hB
    go_enter Tryz.func299, Tryz.ntmps299
    go_wp2
    go_ret
    exact ⟨rfl, bel1⟩
  have hlong' : ¬ (1024 : Int) < (l.length : Int) := by omega
  by_cases h1 : e < 1
  · have hfo := HA.out
    rw [Rn.chk_no hlong fun h => by omega] at hfo
    subst hfo
    generalize l.length = m at *
    clear HA HM h hf hans hB
    go_enter Tryz.func299, Tryz.ntmps299
    go_wp2
    go_ret
    exact ⟨rfl, bel1⟩
  by_cases h2 : n < e
  · have hfo := HA.out
    rw [Rn.chk_no hlong fun h => by omega] at hfo
    subst hfo
    generalize l.length = m at *
    clear HA HM h hf hans hB
    go_enter Tryz.func299, Tryz.ntmps299
    go_wp2
    go_ret
    exact ⟨rfl, bel1⟩
  by_cases h3 : (1048576 : Int) < n
  · have hfo := HA.out
    rw [Rn.chk_no hlong fun h => by omega] at hfo
    subst hfo
    generalize l.length = m at *
    clear HA HM h hf hans hB
    go_enter Tryz.func299, Tryz.ntmps299
    go_wp2
    go_ret
    exact ⟨rfl, bel1⟩
  cases hm : Rn.may ⟨#[]⟩ l with
  | true =>
    have hfo := HA.out
    rw [Rn.chk_ok hlong ⟨by omega, by omega, by omega, hm⟩] at hfo
    subst hfo
    rw [hm] at HM
    generalize l.length = m at *
    clear HA h hf hans hB hm
    go_enter Tryz.func299, Tryz.ntmps299
    go_wp2_with fail
    refine HM.out.mono ?_
    rintro E w2 ⟨rfl, bel2⟩
    have bel02 := bel1.trans (bel2.mono bel1.size)
    go_wp2
    go_ret
    exact ⟨rfl, bel02⟩
  | false =>
    have hfo := HA.out
    rw [Rn.chk_no hlong fun h => by rw [hm] at h; simp at h] at hfo
    subst hfo
    rw [hm] at HM
    generalize l.length = m at *
    clear HA h hf hans hB hm
    go_enter Tryz.func299, Tryz.ntmps299
    go_wp2_with fail
    refine HM.out.mono ?_
    rintro E w2 ⟨rfl, bel2⟩
    have bel02 := bel1.trans (bel2.mono bel1.size)
    go_wp2
    go_ret
    exact ⟨rfl, bel02⟩

end Go.Proofs.YtajlhdmnincehaaGreatDoor

/- The contracts of run.Encode. -/
namespace Go.Proofs.YtajlhdmnincehaaGreatDoor
open Go.RowKit
open Bm (Ov)
set_option linter.unusedVariables false

theorem Tryz.nx0 (a b c : Int) (w : World) : (Instr.index 327 (.agg #[.int .i64 a, .int .i64 b, .int .i64 c]) (.int .i64 0)).run Tryz.prog w = .ok (.int .i64 a) w := by kernel_rfl

theorem Tryz.nx1 (a b c : Int) (w : World) : (Instr.index 327 (.agg #[.int .i64 a, .int .i64 b, .int .i64 c]) (.int .i64 1)).run Tryz.prog w = .ok (.int .i64 b) w := by kernel_rfl

theorem Tryz.nx2 (a b c : Int) (w : World) : (Instr.index 327 (.agg #[.int .i64 a, .int .i64 b, .int .i64 c]) (.int .i64 2)).run Tryz.prog w = .ok (.int .i64 c) w := by kernel_rfl

theorem wrap_u64n (z : Int) (h0 : 0 ≤ z) (h1 : z < 9223372036854775808) : IntKind.u64.wrap z = z := by
  simp [IntKind.wrap, IntKind.bits, IntKind.signed]
  omega

/-- The bytes of a run's numbers, the first k of them. -/
def nmb (f u : Int) (m k : Nat) : List Int := match k with
  | 0 => []
  | 1 => Vm.enc f.toNat
  | 2 => Vm.enc f.toNat ++ Vm.enc u.toNat
  | _ => Vm.enc f.toNat ++ Vm.enc u.toNat ++ Vm.enc m

theorem nmb_len {f u : Int} {m : Nat} (hf : f ≤ 1048576) (hu : u ≤ 1048576) (hm : m ≤ 1024) (k : Nat) : (nmb f u m k).length ≤ 9 := by
  have a := Cm.enc_small hf
  have b := Cm.enc_small hu
  have c : (Vm.enc m).length ≤ 3 := Vm.sz_le 2 m (by omega)
  unfold nmb
  split
  · simp
  · omega
  · rw [List.length_append]; omega
  · rw [List.length_append, List.length_append]; omega

theorem nmb_all (f u : Int) (l : List Ov) : nmb f u l.length 3 ++ Rn.ens l = Rn.encR f u l := by simp [nmb, Rn.encR]

theorem ens_next {l : List Ov} {k : Nat} {o : Ov} (h : l[k]? = some o) : Rn.ens (l.take (k + 1)) = Rn.ens (l.take k) ++ Om.opEnc o.p o.kl o.vl := by
  obtain ⟨h1, rfl⟩ := List.getElem?_eq_some_iff.1 h
  rw [List.take_succ_eq_append_getElem h1, Rn.ens_snoc]

set_option maxRecDepth 20000 in
set_option maxHeartbeats 2000000 in
theorem henc_any (e n : Int) (v : Value) (l : List Ov) (w : World) (h : IsO w v l) (hf : FitO l) (hl : l.length ≤ 140737488355328) :
    Calls Tryz.prog 303 #[cmv e n v] w fun E w' => ∃ vb, E = .returned (.tuple #[vb, .int .i64 (Rn.chk e n l)]) ∧ Own .u8 5 w.heap.size w' vb (Rn.out e n l) ∧ Below w.heap.size w w' := by
  obtain ⟨w1, hw1, sz1, bel1, hB⟩ := blk_step w #[.int .i64 e, .int .i64 n, v] 187
  have c0 := blk_cell hB 0 rfl
  have c1 := blk_cell hB 1 rfl
  have c2 := blk_cell hB 2 rfl
  have HM := hide (hcheck_any e n v l w1 (h.below bel1) hf hl)
  have HFULL := hide fun (h0 : 0 < l.length) => h.full h0
  unfold cmv at HM ⊢
  obtain ⟨ao, cap, rfl, _, _⟩ := h.shape
  obtain ⟨ch, hch⟩ : ∃ x, Rn.chk e n l = x := ⟨_, rfl⟩
  rw [hch] at HM ⊢
  have HA := hide hch
  have HF := hide hf
  obtain ⟨m, hmm⟩ : ∃ m, l.length = m := ⟨_, rfl⟩
  rw [hmm] at HFULL hl c2 hw1 HM ⊢
  have HN := hide hmm
  clear h hf hch hB hmm
  go_enter Tryz.func303, Tryz.ntmps303
  go_wp2_with fail
  refine HM.out.mono ?_
  rintro E w2 ⟨rfl, bel2⟩
  have sz2 := bel2.size
  have bel02 := bel1.trans (bel2.mono bel1.size)
  have d0 := (bel2.cell (p := ⟨w.heap.size, 0, none⟩) (show w.heap.size < w1.heap.size by omega)).trans c0
  have d1 := (bel2.cell (p := ⟨w.heap.size, 1, none⟩) (show w.heap.size < w1.heap.size by omega)).trans c1
  have d2 := (bel2.cell (p := ⟨w.heap.size, 2, none⟩) (show w.heap.size < w1.heap.size by omega)).trans c2
  clear c0 c1 c2 HM bel2
  by_cases h0 : ch = 0
  · subst h0
    have HZ := hide (Rn.chk_zero HA.out)
    obtain ⟨g1, g2, g3, g4, _⟩ := HZ.out
    rw [HN.out] at g1
    have hml : (m : Int) ≤ 1024 := by omega
    have HNM := hide (fun k => nmb_len (f := e) (u := n) (m := m) (by omega) g4 g1 k)
    go_wp2
    go_loopw [5, 25] (fun bb kk wr => ∃ k : Nat, k ≤ 3 ∧ kk = .int .i64 k ∧ Own .u8 5 w.heap.size wr bb (nmb e n m k) ∧ Below w2.heap.size w2 wr) (fun _ kk _ => 4 - (intOf kk).toNat)
    case atStart => exact ⟨0, by omega, rfl, Own.nil _ _ _ _, Below.refl _ _⟩
    case round =>
      obtain ⟨k, hk, rfl, own, belr⟩ := hrel
      have szr := belr.size
      have hln := HNM.out k
      rcases (show k = 0 ∨ k = 1 ∨ k = 2 ∨ k = 3 by omega) with rfl | rfl | rfl | rfl
      · have hix := Tryz.nx0 e n m
        have hwr := wrap_u64n e (by omega) (by omega)
        go_wp2_with fail
        refine (app_any _ _ e _ own.is (by omega) (by omega) (by omega)).mono ?_
        rintro E w4 ⟨v4, rfl, own4, bel4⟩
        have own5 : Own .u8 5 w.heap.size w4 v4 (nmb e n m 1) := by simpa [nmb] using own4.rebase (base' := w.heap.size) (by omega)
        have bel5 := belr.trans (bel4.mono (by omega))
        clear own own4 bel4
        go_wp2
        go_roundw
        case rel => exact ⟨1, by omega, rfl, own5, bel5⟩
        case measure => simp [intOf]
      · have hix := Tryz.nx1 e n m
        have hwr := wrap_u64n n (by omega) (by omega)
        go_wp2_with fail
        refine (app_any _ _ n _ own.is (by omega) (by omega) (by omega)).mono ?_
        rintro E w4 ⟨v4, rfl, own4, bel4⟩
        have own5 : Own .u8 5 w.heap.size w4 v4 (nmb e n m 2) := own4.rebase (base' := w.heap.size) (by omega)
        have bel5 := belr.trans (bel4.mono (by omega))
        clear own own4 bel4
        go_wp2
        go_roundw
        case rel => exact ⟨2, by omega, rfl, own5, bel5⟩
        case measure => simp [intOf]
      · have hix := Tryz.nx2 e n m
        have hwr := wrap_u64n m (by omega) (by omega)
        go_wp2_with fail
        refine (app_any _ _ m _ own.is (by omega) (by omega) (by omega)).mono ?_
        rintro E w4 ⟨v4, rfl, own4, bel4⟩
        have own5 : Own .u8 5 w.heap.size w4 v4 (nmb e n m 3) := by simpa [nmb] using own4.rebase (base' := w.heap.size) (by omega)
        have bel5 := belr.trans (bel4.mono (by omega))
        clear own own4 bel4
        go_wp2
        go_roundw
        case rel => exact ⟨3, by omega, rfl, own5, bel5⟩
        case measure => simp [intOf]
      · have x2 := (belr.cell (p := ⟨w.heap.size, 2, none⟩) (show w.heap.size < w2.heap.size by omega)).trans d2
        have belq := bel02.trans (belr.mono bel02.size)
        have hln3 := hln
        clear d0 d1 d2 belr bel02 hln
        go_wp2
        go_loopw [5, 36] (fun bb kk ws => ∃ k : Nat, k ≤ m ∧ kk = .int .i64 k ∧ Own .u8 5 w.heap.size ws bb (nmb e n m 3 ++ Rn.ens (l.take k)) ∧ Below w.heap.size w ws) (fun _ kk _ => m - (intOf kk).toNat)
        case atStart => exact ⟨0, by omega, rfl, by simpa [Rn.ens] using own, belq⟩
        case round =>
          obtain ⟨k, hk, rfl, ownk, bel⟩ := hrel
          have sz := bel.size
          by_cases hlt : k < m
          · obtain ⟨o, ho⟩ : ∃ o, l[k]? = some o := ⟨l[k]'(by have := HN.out; omega), by rw [List.getElem?_eq_getElem]⟩
            obtain ⟨b1, o1, cq, hvx, _, _, hB, hcell⟩ := HFULL.out (by omega)
            simp only [Value.slice.injEq, true_and] at hvx
            obtain ⟨rfl, rfl⟩ := hvx
            obtain ⟨c0, c1, c2⟩ := hcell k o ho
            have d0 := (bel.cell (p := ⟨b1, o1 + k * 3, none⟩) hB).trans c0
            have d1 := (bel.cell (p := ⟨b1, o1 + k * 3 + 1, none⟩) hB).trans c1
            have d2 := (bel.cell (p := ⟨b1, o1 + k * 3 + 2, none⟩) hB).trans c2
            have HO := hide ho
            clear c0 c1 c2 ho hcell
            have hlt' : (k : Int) < m := by omega
            obtain ⟨hk1, hv1⟩ := HF.out o (List.mem_of_getElem? HO.out)
            obtain ⟨W1, hW1, szw, bW1, B1⟩ := blk_step wr #[.bool o.p, .string o.k, .string o.v] 88
            have e0 := blk_cell B1 0 rfl
            have e1 := blk_cell B1 1 rfl
            have e2 := blk_cell B1 2 rfl
            have b01 : Below w.heap.size w W1 := bel.trans (bW1.mono sz)
            have own1 := ownk.below bW1
            have hoc : o.c = 0 := Rn.may_c HZ.out.2.2.2.2 o (List.mem_of_getElem? HO.out)
            clear B1 bW1 bel ownk
            go_wp2_with fail
            refine (oapp_any (.slice none 0 0) [] o.p o.k o.v _ (Is.nil _ _) (by simp) hk1 hv1).mono ?_
            rintro E w5 ⟨v5, rfl, own5, bel5⟩
            have hok : Om.chk o.p o.k.data.toList o.v.data.toList = 0 := hoc
            rw [Om.appd_ok hok, List.nil_append] at own5
            rw [hok]
            have own6 := own1.below bel5
            have b05 : Below w.heap.size w w5 := b01.trans (bel5.mono b01.size)
            have hz5 := b05.size
            have hle1 : (Om.opEnc o.p o.k.data.toList o.v.data.toList).length ≤ 51 := Om.opEnc_le hok
            have hle2 : (Rn.ens (l.take k)).length ≤ 51 * 1024 := by
              have := Rn.ens_le (l := l.take k) fun q hq => Rn.may_c HZ.out.2.2.2.2 q (List.mem_of_mem_take hq)
              rw [List.length_take] at this
              omega
            have is5 := own5.is
            have hlen : ((nmb e n m 3 ++ Rn.ens (l.take k)).length + (Om.opEnc o.p o.k.data.toList o.v.data.toList).length) * 1 ≤ 150000000000000 := by
              rw [List.length_append]
              omega
            clear own1 own5 bel5 b01 e0 e1 e2 d0 d1 d2 hok hoc
            go_wp2_with (at_builtin; refine wpList_append_is rfl (.tmp 45) (.tmp 46) 28 rfl .u8 5 w.heap.size 1 Tryz.underlying28 Tryz.info5 (by decide) _ _ rfl own6 _ _ rfl is5 hlen hz5 ?_)
            rintro v7 w7 own7 bel7 _
            have own8 : Own .u8 5 w.heap.size w7 v7 (nmb e n m 3 ++ Rn.ens (l.take (k + 1))) := by
              rw [ens_next HO.out]
              exact own7
            have bel8 := b05.trans bel7
            clear own6 own7 is5 bel7 b05
            go_wp2
            go_roundw
            case rel => exact ⟨v7, _, _, _, .int .i64 ((k : Int) + 1), _, _, _, _, _, _, _, _, _, _, _, _, ⟨k + 1, by omega, by go_num, own8, bel8⟩, rfl⟩
            case measure => simp [intOf]; omega
          · have hlt' : ¬ (k : Int) < m := by omega
            have OW : Hid (Own .u8 5 w.heap.size wr u5 (Rn.out e n l)) := hide (by
              rw [Rn.out_ok HA.out, ← nmb_all, HN.out]
              rw [List.take_of_length_le (by have := HN.out; omega)] at ownk
              exact ownk)
            clear ownk
            go_wp2
            go_ret2
            exact ⟨_, rfl, OW.out, bel⟩
  · have hne : (ch != 0) = true := by simp [h0]
    have HO : Hid (Rn.out e n l = []) := hide (Rn.out_no (by rw [HA.out]; exact h0))
    go_wp2
    go_ret2
    exact ⟨_, rfl, by rw [HO.out]; exact Own.nil _ _ _ _, bel02⟩

end Go.Proofs.YtajlhdmnincehaaGreatDoor
