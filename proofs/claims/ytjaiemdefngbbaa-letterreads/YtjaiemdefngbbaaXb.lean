/- The contracts of the document's and the laws' comparison of lists of commits. -/
import Derived.Test.YtjaiemdefngbbaaXa
import Derived.Test.YtjaiemdefngbbaaA3
import Derived.Deep.RegionHeld3
namespace Go.Proofs.Ytjaiemdefngbbaa
open Go.RowKit
set_option linter.unusedVariables false

set_option maxHeartbeats 1000000 in
theorem samesR_any (va vb : Value) (r s : List Cw) (w : World) (ha : IsC w va r) (hb : IsC w vb s) (fa : FitC r) (fb : FitC s) (hl : r.length ≤ 140737488355328) (hl' : s.length ≤ 140737488355328) :
    Calls Try.prog 42 #[va, vb] w fun E w' => E = .returned (.bool (sameV (cvs r) (cvs s))) ∧ Below w.heap.size w w' := by
  obtain ⟨ans, hans⟩ : ∃ x, sameV (cvs r) (cvs s) = x := ⟨_, rfl⟩
  rw [hans]
  have HA := hide hans
  clear hans
  obtain ⟨a1, p1, hva, _, _⟩ := ha.1.shape
  obtain ⟨a2, p2, hvb, _, _⟩ := hb.1.shape
  by_cases hne : r.length = s.length
  · have C1 := hide (isC_cells ha)
    have C2 := hide (isC_cells hb)
    have I1 := hide ha.2
    have I2 := hide hb.2
    have F1 := hide fa
    have F2 := hide fb
    have HL := hide hne
    have ht : ((r.length : Int) != (s.length : Int)) = false := by simp; omega
    subst hva hvb
    generalize hn : r.length = n at *
    generalize hm : s.length = m at *
    have HN := hide hn
    have HM := hide hm
    clear ha hb fa fb hne hn hm
    go_enter Try.func42, Try.ntmps42
    go_wp2
    go_loopw [5] (fun i wr => ∃ (k : Nat), k ≤ n ∧ i = .int .i64 k ∧ Hid ((cvs r).take k = (cvs s).take k) ∧ Below w.heap.size w wr) (fun i _ => n - (intOf i).toNat)
    case atStart => exact ⟨0, by omega, rfl, hide rfl, Below.refl _ _⟩
    case round =>
      obtain ⟨k, hk, rfl, HT, bel⟩ := hrel
      have sz := bel.size
      by_cases hlt : k < n
      · obtain ⟨b1, o1, c1, hv1, hB1, hc1⟩ := C1.out (by have := HN.out; omega)
        obtain ⟨b2, o2, c2, hv2, hB2, hc2⟩ := C2.out (by have := HM.out; have := HL.out; omega)
        simp only [Value.slice.injEq, true_and] at hv1 hv2
        obtain ⟨rfl, rfl⟩ := hv1
        obtain ⟨rfl, rfl⟩ := hv2
        obtain ⟨c, hc⟩ := at_of (l := r) (k := k) (by have := HN.out; omega)
        obtain ⟨d, hd⟩ := at_of (l := s) (k := k) (by have := HM.out; have := HL.out; omega)
        obtain ⟨x0, x1, x2⟩ := row_at hc1 bel hB1 hc
        obtain ⟨y0, y1, y2⟩ := row_at hc2 bel hB2 hd
        have i1 := (I1.out c (List.mem_of_getElem? hc)).1.below bel
        have i2 := (I2.out d (List.mem_of_getElem? hd)).1.below bel
        have l1 := (F1.out c (List.mem_of_getElem? hc)).2
        have l2 := (F2.out d (List.mem_of_getElem? hd)).2
        have hlt' : (k : Int) < n := by omega
        have hlt2 : (k : Int) < m := by have := HL.out; omega
        have hB1' : b1 < wr.heap.size := by omega
        have hB2' : b2 < wr.heap.size := by omega
        have X := hide (fun W (h1 : IsO W c.v c.l) (h2 : IsO W d.v d.l) => csameR_any c.e c.n _ c.l d.e d.n _ d.l W h1 h2 (by omega) (by omega))
        have HC := hide hc
        have HD := hide hd
        obtain ⟨sm, hsm⟩ : ∃ x, sameC c.e c.n c.l d.e d.n d.l = x := ⟨_, rfl⟩
        rw [hsm] at X
        have HSM := hide hsm
        clear hc hd hc1 hc2 l1 l2 hsm
        cases sm
        · have hfo := HA.out
          rw [sameV_no fun e => by
            have h1 : (cvs r)[k]? = some c.c := by rw [cvs_get, HC.out]; rfl
            rw [e, cvs_get, HD.out] at h1
            have h2 : d.c = c.c := by simpa using h1
            obtain ⟨q1, q2, q3⟩ := cw_ext h2
            have := HSM.out
            rw [sameC_iff.2 ⟨q1.symm, q2.symm, q3.symm⟩] at this
            simp at this] at hfo
          subst hfo
          go_wp2_with fail
          go_region_held3 (fun w' => (w'.cell? ⟨b1, o1 + k * 3, none⟩ = some (.int .i64 c.e) ∧ w'.cell? ⟨b1, o1 + k * 3 + 1, none⟩ = some (.int .i64 c.n) ∧ w'.cell? ⟨b1, o1 + k * 3 + 2, none⟩ = some c.v) ∧ (w'.cell? ⟨b2, o2 + k * 3, none⟩ = some (.int .i64 d.e) ∧ w'.cell? ⟨b2, o2 + k * 3 + 1, none⟩ = some (.int .i64 d.n) ∧ w'.cell? ⟨b2, o2 + k * 3 + 2, none⟩ = some d.v)) (first | exact ⟨⟨x0, x1, x2⟩, ⟨y0, y1, y2⟩⟩ | exact ⟨⟨g0, g1, g2⟩, ⟨h0, h1, h2⟩⟩ | go_keep)
            (first
            | (go_at_call 73; refine (X.out _ (i1.drewN 1) (i2.drewN 1)).mono ?_; rintro E w3 ⟨rfl, bel3'⟩; have bel3 : Below wr.heap.size wr w3 := ((Below.refl _ _).drew).trans bel3'; have g0 := (bel3.cell (p := ⟨b1, o1 + k * 3, none⟩) hB1').trans x0; have g1 := (bel3.cell (p := ⟨b1, o1 + k * 3 + 1, none⟩) hB1').trans x1; have g2 := (bel3.cell (p := ⟨b1, o1 + k * 3 + 2, none⟩) hB1').trans x2; have h0 := (bel3.cell (p := ⟨b2, o2 + k * 3, none⟩) hB2').trans y0; have h1 := (bel3.cell (p := ⟨b2, o2 + k * 3 + 1, none⟩) hB2').trans y1; have h2 := (bel3.cell (p := ⟨b2, o2 + k * 3 + 2, none⟩) hB2').trans y2; clear bel3'))
          have belR := bel.trans (bel3.mono (by omega))
          go_wp2
          go_ret
          exact ⟨rfl, belR⟩
        · have HT2 : Hid ((cvs r).take (k + 1) = (cvs s).take (k + 1)) := hide (by
            obtain ⟨q1, q2, q3⟩ := sameC_iff.1 HSM.out
            rw [List.take_add_one, List.take_add_one, HT.out, cvs_get, cvs_get, HC.out, HD.out]
            simp [Cw.c, q1, q2, q3])
          go_wp2_with fail
          go_region_held3 (fun w' => (w'.cell? ⟨b1, o1 + k * 3, none⟩ = some (.int .i64 c.e) ∧ w'.cell? ⟨b1, o1 + k * 3 + 1, none⟩ = some (.int .i64 c.n) ∧ w'.cell? ⟨b1, o1 + k * 3 + 2, none⟩ = some c.v) ∧ (w'.cell? ⟨b2, o2 + k * 3, none⟩ = some (.int .i64 d.e) ∧ w'.cell? ⟨b2, o2 + k * 3 + 1, none⟩ = some (.int .i64 d.n) ∧ w'.cell? ⟨b2, o2 + k * 3 + 2, none⟩ = some d.v)) (first | exact ⟨⟨x0, x1, x2⟩, ⟨y0, y1, y2⟩⟩ | exact ⟨⟨g0, g1, g2⟩, ⟨h0, h1, h2⟩⟩ | go_keep)
            (first
            | (go_at_call 73; refine (X.out _ (i1.drewN 1) (i2.drewN 1)).mono ?_; rintro E w3 ⟨rfl, bel3'⟩; have bel3 : Below wr.heap.size wr w3 := ((Below.refl _ _).drew).trans bel3'; have g0 := (bel3.cell (p := ⟨b1, o1 + k * 3, none⟩) hB1').trans x0; have g1 := (bel3.cell (p := ⟨b1, o1 + k * 3 + 1, none⟩) hB1').trans x1; have g2 := (bel3.cell (p := ⟨b1, o1 + k * 3 + 2, none⟩) hB1').trans x2; have h0 := (bel3.cell (p := ⟨b2, o2 + k * 3, none⟩) hB2').trans y0; have h1 := (bel3.cell (p := ⟨b2, o2 + k * 3 + 1, none⟩) hB2').trans y1; have h2 := (bel3.cell (p := ⟨b2, o2 + k * 3 + 2, none⟩) hB2').trans y2; clear bel3'))
          have belR := bel.trans (bel3.mono (by omega))
          clear x0 x1 x2 y0 y1 y2 g0 g1 g2 h0 h1 h2 i1 i2 bel3 bel
          go_wp2
          go_roundw
          case rel => exact ⟨k + 1, by omega, by go_num, HT2, belR⟩
          case measure => simp [intOf]; omega
      · have hlt' : ¬ (k : Int) < n := by omega
        have hfo := HA.out
        rw [sameV_iff.2 (by
          have h1 := HT.out
          rw [List.take_of_length_le (by rw [cvs_length, HN.out]; omega), List.take_of_length_le (by rw [cvs_length, HM.out]; have := HL.out; omega)] at h1
          exact h1)] at hfo
        subst hfo
        clear HA
        go_wp2
        go_ret
        exact ⟨rfl, bel⟩
  · have ht : ((r.length : Int) != (s.length : Int)) = true := by simp; omega
    have hfo := HA.out
    rw [sameV_no fun e => hne (by rw [← cvs_length r, ← cvs_length s, e])] at hfo
    subst hfo hva hvb
    clear hne HA
    go_enter Try.func42, Try.ntmps42
    go_wp2
    go_ret
    exact ⟨rfl, Below.refl _ _⟩

set_option maxHeartbeats 1000000 in
theorem sameCs_any (va vb : Value) (r s : List Cw) (w : World) (ha : IsC w va r) (hb : IsC w vb s) (fa : FitC r) (fb : FitC s) (hl : r.length ≤ 140737488355328) (hl' : s.length ≤ 140737488355328) :
    Calls Try.prog 50 #[va, vb] w fun E w' => E = .returned (.bool (sameV (cvs r) (cvs s))) ∧ Below w.heap.size w w' := by
  obtain ⟨ans, hans⟩ : ∃ x, sameV (cvs r) (cvs s) = x := ⟨_, rfl⟩
  rw [hans]
  have HA := hide hans
  clear hans
  obtain ⟨a1, p1, hva, _, _⟩ := ha.1.shape
  obtain ⟨a2, p2, hvb, _, _⟩ := hb.1.shape
  by_cases hne : r.length = s.length
  · have C1 := hide (isC_cells ha)
    have C2 := hide (isC_cells hb)
    have I1 := hide ha.2
    have I2 := hide hb.2
    have F1 := hide fa
    have F2 := hide fb
    have HL := hide hne
    have ht : ((r.length : Int) != (s.length : Int)) = false := by simp; omega
    subst hva hvb
    generalize hn : r.length = n at *
    generalize hm : s.length = m at *
    have HN := hide hn
    have HM := hide hm
    clear ha hb fa fb hne hn hm
    go_enter Try.func50, Try.ntmps50
    go_wp2
    go_loopw [5] (fun i wr => ∃ (k : Nat), k ≤ n ∧ i = .int .i64 k ∧ Hid ((cvs r).take k = (cvs s).take k) ∧ Below w.heap.size w wr) (fun i _ => n - (intOf i).toNat)
    case atStart => exact ⟨0, by omega, rfl, hide rfl, Below.refl _ _⟩
    case round =>
      obtain ⟨k, hk, rfl, HT, bel⟩ := hrel
      have sz := bel.size
      by_cases hlt : k < n
      · obtain ⟨b1, o1, c1, hv1, hB1, hc1⟩ := C1.out (by have := HN.out; omega)
        obtain ⟨b2, o2, c2, hv2, hB2, hc2⟩ := C2.out (by have := HM.out; have := HL.out; omega)
        simp only [Value.slice.injEq, true_and] at hv1 hv2
        obtain ⟨rfl, rfl⟩ := hv1
        obtain ⟨rfl, rfl⟩ := hv2
        obtain ⟨c, hc⟩ := at_of (l := r) (k := k) (by have := HN.out; omega)
        obtain ⟨d, hd⟩ := at_of (l := s) (k := k) (by have := HM.out; have := HL.out; omega)
        obtain ⟨x0, x1, x2⟩ := row_at hc1 bel hB1 hc
        obtain ⟨y0, y1, y2⟩ := row_at hc2 bel hB2 hd
        have i1 := (I1.out c (List.mem_of_getElem? hc)).1.below bel
        have i2 := (I2.out d (List.mem_of_getElem? hd)).1.below bel
        have l1 := (F1.out c (List.mem_of_getElem? hc)).2
        have l2 := (F2.out d (List.mem_of_getElem? hd)).2
        have hlt' : (k : Int) < n := by omega
        have hlt2 : (k : Int) < m := by have := HL.out; omega
        have hB1' : b1 < wr.heap.size := by omega
        have hB2' : b2 < wr.heap.size := by omega
        have X := hide (fun W (h1 : IsO W c.v c.l) (h2 : IsO W d.v d.l) => csameK_any c.e c.n _ c.l d.e d.n _ d.l W h1 h2 (by omega) (by omega))
        have HC := hide hc
        have HD := hide hd
        obtain ⟨sm, hsm⟩ : ∃ x, sameC c.e c.n c.l d.e d.n d.l = x := ⟨_, rfl⟩
        rw [hsm] at X
        have HSM := hide hsm
        clear hc hd hc1 hc2 l1 l2 hsm
        cases sm
        · have hfo := HA.out
          rw [sameV_no fun e => by
            have h1 : (cvs r)[k]? = some c.c := by rw [cvs_get, HC.out]; rfl
            rw [e, cvs_get, HD.out] at h1
            have h2 : d.c = c.c := by simpa using h1
            obtain ⟨q1, q2, q3⟩ := cw_ext h2
            have := HSM.out
            rw [sameC_iff.2 ⟨q1.symm, q2.symm, q3.symm⟩] at this
            simp at this] at hfo
          subst hfo
          go_wp2_with fail
          go_region_held3 (fun w' => (w'.cell? ⟨b1, o1 + k * 3, none⟩ = some (.int .i64 c.e) ∧ w'.cell? ⟨b1, o1 + k * 3 + 1, none⟩ = some (.int .i64 c.n) ∧ w'.cell? ⟨b1, o1 + k * 3 + 2, none⟩ = some c.v) ∧ (w'.cell? ⟨b2, o2 + k * 3, none⟩ = some (.int .i64 d.e) ∧ w'.cell? ⟨b2, o2 + k * 3 + 1, none⟩ = some (.int .i64 d.n) ∧ w'.cell? ⟨b2, o2 + k * 3 + 2, none⟩ = some d.v)) (first | exact ⟨⟨x0, x1, x2⟩, ⟨y0, y1, y2⟩⟩ | exact ⟨⟨g0, g1, g2⟩, ⟨h0, h1, h2⟩⟩ | go_keep)
            (first
            | (go_at_call 75; refine (X.out _ (i1.drewN 1) (i2.drewN 1)).mono ?_; rintro E w3 ⟨rfl, bel3'⟩; have bel3 : Below wr.heap.size wr w3 := ((Below.refl _ _).drew).trans bel3'; have g0 := (bel3.cell (p := ⟨b1, o1 + k * 3, none⟩) hB1').trans x0; have g1 := (bel3.cell (p := ⟨b1, o1 + k * 3 + 1, none⟩) hB1').trans x1; have g2 := (bel3.cell (p := ⟨b1, o1 + k * 3 + 2, none⟩) hB1').trans x2; have h0 := (bel3.cell (p := ⟨b2, o2 + k * 3, none⟩) hB2').trans y0; have h1 := (bel3.cell (p := ⟨b2, o2 + k * 3 + 1, none⟩) hB2').trans y1; have h2 := (bel3.cell (p := ⟨b2, o2 + k * 3 + 2, none⟩) hB2').trans y2; clear bel3'))
          have belR := bel.trans (bel3.mono (by omega))
          go_wp2
          go_ret
          exact ⟨rfl, belR⟩
        · have HT2 : Hid ((cvs r).take (k + 1) = (cvs s).take (k + 1)) := hide (by
            obtain ⟨q1, q2, q3⟩ := sameC_iff.1 HSM.out
            rw [List.take_add_one, List.take_add_one, HT.out, cvs_get, cvs_get, HC.out, HD.out]
            simp [Cw.c, q1, q2, q3])
          go_wp2_with fail
          go_region_held3 (fun w' => (w'.cell? ⟨b1, o1 + k * 3, none⟩ = some (.int .i64 c.e) ∧ w'.cell? ⟨b1, o1 + k * 3 + 1, none⟩ = some (.int .i64 c.n) ∧ w'.cell? ⟨b1, o1 + k * 3 + 2, none⟩ = some c.v) ∧ (w'.cell? ⟨b2, o2 + k * 3, none⟩ = some (.int .i64 d.e) ∧ w'.cell? ⟨b2, o2 + k * 3 + 1, none⟩ = some (.int .i64 d.n) ∧ w'.cell? ⟨b2, o2 + k * 3 + 2, none⟩ = some d.v)) (first | exact ⟨⟨x0, x1, x2⟩, ⟨y0, y1, y2⟩⟩ | exact ⟨⟨g0, g1, g2⟩, ⟨h0, h1, h2⟩⟩ | go_keep)
            (first
            | (go_at_call 75; refine (X.out _ (i1.drewN 1) (i2.drewN 1)).mono ?_; rintro E w3 ⟨rfl, bel3'⟩; have bel3 : Below wr.heap.size wr w3 := ((Below.refl _ _).drew).trans bel3'; have g0 := (bel3.cell (p := ⟨b1, o1 + k * 3, none⟩) hB1').trans x0; have g1 := (bel3.cell (p := ⟨b1, o1 + k * 3 + 1, none⟩) hB1').trans x1; have g2 := (bel3.cell (p := ⟨b1, o1 + k * 3 + 2, none⟩) hB1').trans x2; have h0 := (bel3.cell (p := ⟨b2, o2 + k * 3, none⟩) hB2').trans y0; have h1 := (bel3.cell (p := ⟨b2, o2 + k * 3 + 1, none⟩) hB2').trans y1; have h2 := (bel3.cell (p := ⟨b2, o2 + k * 3 + 2, none⟩) hB2').trans y2; clear bel3'))
          have belR := bel.trans (bel3.mono (by omega))
          clear x0 x1 x2 y0 y1 y2 g0 g1 g2 h0 h1 h2 i1 i2 bel3 bel
          go_wp2
          go_roundw
          case rel => exact ⟨k + 1, by omega, by go_num, HT2, belR⟩
          case measure => simp [intOf]; omega
      · have hlt' : ¬ (k : Int) < n := by omega
        have hfo := HA.out
        rw [sameV_iff.2 (by
          have h1 := HT.out
          rw [List.take_of_length_le (by rw [cvs_length, HN.out]; omega), List.take_of_length_le (by rw [cvs_length, HM.out]; have := HL.out; omega)] at h1
          exact h1)] at hfo
        subst hfo
        clear HA
        go_wp2
        go_ret
        exact ⟨rfl, bel⟩
  · have ht : ((r.length : Int) != (s.length : Int)) = true := by simp; omega
    have hfo := HA.out
    rw [sameV_no fun e => hne (by rw [← cvs_length r, ← cvs_length s, e])] at hfo
    subst hfo hva hvb
    clear hne HA
    go_enter Try.func50, Try.ntmps50
    go_wp2
    go_ret
    exact ⟨rfl, Below.refl _ _⟩

end Go.Proofs.Ytjaiemdefngbbaa
