/- Texts of one layer, one behind the other. -/
import Derived.Test.YthchcnflflafeaaG11
import Derived.Test.YthchcnflflafeaaG8
import Derived.BigQuiet
/- The contract of the laws' SameRuns. -/
namespace Go.Proofs.Ythchcnflflafeaa
open Go.RowKit
set_option linter.unusedVariables false

theorem at_ofN {l : List Cw} {k : Nat} (h : k < l.length) : ∃ c, l[k]? = some c := ⟨l[k], List.getElem?_eq_getElem h⟩

set_option maxRecDepth 20000 in
set_option maxHeartbeats 4000000 in
theorem sameRs_any (va vb : Value) (r s : List Cw) (w : World) (ha : IsC w va r) (hb : IsC w vb s) (fa : FitC r) (fb : FitC s) (hl : r.length ≤ 140737488355328) (hl' : s.length ≤ 140737488355328) :
    Calls Try.prog 23 #[va, vb] w fun E w' => E = .returned (.bool (sameV (cvs r) (cvs s))) ∧ Below w.heap.size w w' := by
  obtain ⟨ans, hans⟩ : ∃ x, sameV (cvs r) (cvs s) = x := ⟨_, rfl⟩
  rw [hans]
  have HA := hide hans
  clear hans
  obtain ⟨a1, p1, hva, _, _⟩ := ha.1.shape
  obtain ⟨a2, p2, hvb, _, _⟩ := hb.1.shape
  by_cases hne : r.length = s.length
  · have C1 := hide (isC_cells ha)
    have C2 := hide (isC_cells hb)
    have I1 := hide ha.2
    have I2 := hide hb.2
    have F1 := hide fa
    have F2 := hide fb
    have HL := hide hne
    have ht : ((r.length : Int) != (s.length : Int)) = false := by simp; omega
    subst hva hvb
    generalize hn : r.length = n at *
    generalize hm : s.length = m at *
    have HN := hide hn
    have HM := hide hm
    clear ha hb fa fb hne hn hm
    go_enter Try.func23, Try.ntmps23
    go_wp2
    go_loopw [5] (fun i wr => ∃ (k : Nat), k ≤ n ∧ i = .int .i64 k ∧ Hid ((cvs r).take k = (cvs s).take k) ∧ Below w.heap.size w wr) (fun i _ => n - (intOf i).toNat)
    case atStart => exact ⟨0, by omega, rfl, hide rfl, Below.refl _ _⟩
    case round =>
      obtain ⟨k, hk, rfl, HT, bel⟩ := hrel
      have sz := bel.size
      by_cases hlt : k < n
      · obtain ⟨b1, o1, c1, hv1, hB1, hc1⟩ := C1.out (by have := HN.out; omega)
        obtain ⟨b2, o2, c2, hv2, hB2, hc2⟩ := C2.out (by have := HM.out; have := HL.out; omega)
        simp only [Value.slice.injEq, true_and] at hv1 hv2
        obtain ⟨rfl, rfl⟩ := hv1
        obtain ⟨rfl, rfl⟩ := hv2
        obtain ⟨c, hc⟩ := at_ofN (l := r) (k := k) (by have := HN.out; omega)
        obtain ⟨d, hd⟩ := at_ofN (l := s) (k := k) (by have := HM.out; have := HL.out; omega)
        obtain ⟨x0, x1, x2⟩ := row_at hc1 bel hB1 hc
        obtain ⟨y0, y1, y2⟩ := row_at hc2 bel hB2 hd
        have i1 := (I1.out c (List.mem_of_getElem? hc)).1.below bel
        have i2 := (I2.out d (List.mem_of_getElem? hd)).1.below bel
        have l1 := (F1.out c (List.mem_of_getElem? hc)).2
        have l2 := (F2.out d (List.mem_of_getElem? hd)).2
        have hlt' : (k : Int) < n := by omega
        have hlt2 : (k : Int) < m := by have := HL.out; omega
        have hB1' : b1 < wr.heap.size := by omega
        have hB2' : b2 < wr.heap.size := by omega
        have X : Hid (∀ m, Calls Try.prog 62 #[c.v, d.v] (wr.drewN m) fun e w' => e = .returned (.bool (Bm.sameL c.l d.l)) ∧ ∃ q, w' = (wr.drewN m).drewN q) := hide fun m => sameO_quiet _ _ c.l d.l (wr.drewN m) (i1.drewN m) (i2.drewN m) (by omega) (by omega)
        have HC := hide hc
        have HD := hide hd
        have HNE : Hid (c.c ≠ d.c → ans = false) := hide fun hne => by
          rw [← HA.out]
          refine sameV_no fun e => hne ?_
          have h1 : (cvs r)[k]? = some c.c := by rw [cvs_get, HC.out]; rfl
          rw [e, cvs_get, HD.out] at h1
          simpa using h1.symm
        have HTT : Hid (c.c = d.c → (cvs r).take (k + 1) = (cvs s).take (k + 1)) := hide fun he => by
          rw [List.take_add_one, List.take_add_one, HT.out, cvs_get, cvs_get, HC.out, HD.out]
          simp [he]
        clear hc hd hc1 hc2 l1 l2
        by_cases he : c.e = d.e
        · have he1 : (c.e != d.e) = false := by simp [he]
          by_cases hnn : c.n = d.n
          · have hn1 : (c.n != d.n) = false := by simp [hnn]
            obtain ⟨sm, hsm⟩ : ∃ x, Bm.sameL c.l d.l = x := ⟨_, rfl⟩
            rw [hsm] at X
            cases sm with
            | true =>
              have HT2 := hide (HTT.out (by unfold Cw.c; rw [he, hnn, Bm.sameL_iff.1 hsm]))
              clear he hnn hsm
              go_wp2_with fail
              go_quiet ((go_at_call 62; refine Calls.quiet_of (X.out _)))
              have belR := below_drewN bel nq
              clear x0 x1 x2 y0 y1 y2 i1 i2 bel
              go_wp2
              go_roundw
              case rel => exact ⟨k + 1, by omega, by go_num, HT2, belR⟩
              case measure => simp [intOf]; omega
            | false =>
              obtain rfl := HNE.out fun e => by
                have h3 : c.l = d.l := congrArg Cm.Cv.l e
                rw [Bm.sameL_iff.2 h3] at hsm
                cases hsm
              clear he hnn hsm
              go_wp2_with fail
              go_quiet ((go_at_call 62; refine Calls.quiet_of (X.out _)))
              have belR := below_drewN bel nq
              clear x0 x1 x2 y0 y1 y2 i1 i2 bel
              go_wp2
              go_ret
              exact ⟨rfl, belR⟩
          · have hn1 : (c.n != d.n) = true := by simp [hnn]
            obtain rfl := HNE.out fun e => hnn (congrArg Cm.Cv.n e)
            clear he hnn
            go_wp2_with fail
            go_quiet (fail)
            have belR := below_drewN bel nq
            clear x0 x1 x2 y0 y1 y2 i1 i2 bel
            go_wp2
            go_ret
            exact ⟨rfl, belR⟩
        · have he1 : (c.e != d.e) = true := by simp [he]
          obtain rfl := HNE.out fun e => he (congrArg Cm.Cv.e e)
          clear he
          go_wp2_with fail
          go_quiet (fail)
          have belR := below_drewN bel nq
          clear x0 x1 x2 y0 y1 y2 i1 i2 bel
          go_wp2
          go_ret
          exact ⟨rfl, belR⟩
      · have hlt' : ¬ (k : Int) < n := by omega
        have hfo := HA.out
        rw [sameV_iff.2 (by
          have h1 := HT.out
          rw [List.take_of_length_le (by rw [cvs_length, HN.out]; omega), List.take_of_length_le (by rw [cvs_length, HM.out]; have := HL.out; omega)] at h1
          exact h1)] at hfo
        subst hfo
        clear HA
        go_wp2
        go_ret
        exact ⟨rfl, bel⟩
  · have ht : ((r.length : Int) != (s.length : Int)) = true := by simp; omega
    have hfo := HA.out
    rw [sameV_no fun e => hne (by rw [← cvs_length r, ← cvs_length s, e])] at hfo
    subst hfo hva hvb
    clear hne HA
    go_enter Try.func23, Try.ntmps23
    go_wp2
    go_ret
    exact ⟨rfl, Below.refl _ _⟩

end Go.Proofs.Ythchcnflflafeaa
