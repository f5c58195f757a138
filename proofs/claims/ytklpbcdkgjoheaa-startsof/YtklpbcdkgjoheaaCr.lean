/- The contract of the laws' KeptCommits. -/
import Derived.Test.YtklpbcdkgjoheaaCq
namespace Go.Proofs.Ytklpbcdkgjoheaa
open Go.RowKit
set_option linter.unusedVariables false

theorem row_at {w : World} {b o : Nat} {r : List Cw} (h : ∀ i c, r[i]? = some c → w.cell? ⟨b, o + i * 3, none⟩ = some (.int .i64 c.e) ∧ w.cell? ⟨b, o + i * 3 + 1, none⟩ = some (.int .i64 c.n) ∧ w.cell? ⟨b, o + i * 3 + 2, none⟩ = some c.v) {w' : World} {base : Nat} (hb : Below base w w') (hB : b < base) {k : Nat} {c : Cw} (hc : r[k]? = some c) :
    w'.cell? ⟨b, o + k * 3, none⟩ = some (.int .i64 c.e) ∧ w'.cell? ⟨b, o + k * 3 + 1, none⟩ = some (.int .i64 c.n) ∧ w'.cell? ⟨b, o + k * 3 + 2, none⟩ = some c.v := by
  obtain ⟨e0, e1, e2⟩ := h k c hc
  exact ⟨(hb.cell (p := ⟨b, o + k * 3, none⟩) hB).trans e0, (hb.cell (p := ⟨b, o + k * 3 + 1, none⟩) hB).trans e1, (hb.cell (p := ⟨b, o + k * 3 + 2, none⟩) hB).trans e2⟩

set_option maxRecDepth 100000 in
set_option maxHeartbeats 2000000 in
theorem keptCs_yes (vf vl : Value) (rs r : List Cw) (base : Nat) (w : World) (hw : RowC w vf (rs ++ [behC, behC, behC])) (he : cvs rs = cvs r) (hr : LentR base w rs) (h : IsC w vl r) (hf : FitC r) (hl : r.length ≤ 1000) :
    Calls Try.prog 28 #[vf, vl] w fun E w' => E = .returned (.bool true) ∧ Below w.heap.size w w' := by
  have hlen := cvs_len he
  obtain ⟨b2, o2, c2, hvf, hcf, hmf, hB2, hcell2⟩ := hw.full (by simp)
  have hfl : (rs ++ [behC, behC, behC]).length = r.length + 3 := by rw [List.length_append, hlen]; rfl
  rw [hfl] at hvf hcf
  subst hvf
  obtain ⟨ao, cap, hvl, _, _⟩ := h.1.shape
  have hcell : 0 < r.length → ∃ b1 o1 c1, vl = .slice (some ⟨b1, o1, none⟩) r.length c1 ∧ b1 < w.heap.size ∧ ∀ i c, r[i]? = some c → w.cell? ⟨b1, o1 + i * 3, none⟩ = some (.int .i64 c.e) ∧ w.cell? ⟨b1, o1 + i * 3 + 1, none⟩ = some (.int .i64 c.n) ∧ w.cell? ⟨b1, o1 + i * 3 + 2, none⟩ = some c.v := by
    intro hp
    obtain ⟨b1, o1, c1, hv, _, _, hB, hc⟩ := h.1.full hp
    exact ⟨b1, o1, c1, hv, hB, hc⟩
  subst hvl
  have HIN := hide h.2
  have HFIT := hide hf
  have HC := hide hcell
  have HC2 := hide hcell2
  have HE := hide he
  have HL := hide hr
  generalize hn : r.length = n at *
  have HN := hide hn
  have HRS := hide hlen
  have hne : (((n : Int) + 3) != ((n : Int) + 3)) = false := by simp
  clear h hcell hcell2 hf hn he hr hlen hfl hw
  go_enter Try.func28, Try.ntmps28
  go_wp2
  go_loopw [5] (fun iv wr => ∃ (k : Nat), k ≤ n ∧ iv = .int .i64 k ∧ Below w.heap.size w wr) (fun iv _ => n - (intOf iv).toNat)
  case atStart => exact ⟨0, by omega, rfl, Below.refl _ _⟩
  case round =>
    obtain ⟨k, hk, rfl, bel⟩ := hrel
    have sz := bel.size
    by_cases hlt : k < n
    · obtain ⟨b1, o1, c1, hvx, hB, hcell⟩ := HC.out (by have := HN.out; omega)
      simp only [Value.slice.injEq, true_and] at hvx
      obtain ⟨rfl, rfl⟩ := hvx
      obtain ⟨c, hc⟩ : ∃ c, rs[k]? = some c := ⟨rs[k]'(by have := HN.out; have := HRS.out; omega), by rw [List.getElem?_eq_getElem]⟩
      obtain ⟨d, hd, q1, q2, q3⟩ := cvs_at HE.out hc
      have hc' : (rs ++ [behC, behC, behC])[k]? = some c := by rw [List.getElem?_append_left (by have := HRS.out; omega)]; exact hc
      obtain ⟨d0, d1, d2⟩ := row_at hcell bel hB hd
      obtain ⟨c0, c1', c2'⟩ := row_at HC2.out bel hB2 hc'
      have hmem := List.mem_of_getElem? hd
      obtain ⟨i1, _, _⟩ := HIN.out d hmem
      obtain ⟨_, hld⟩ := HFIT.out d hmem
      have i2 := i1.below bel
      have l2 := (HL.out c (List.mem_of_getElem? hc)).below bel
      rw [← q1] at d0
      rw [← q2] at d1
      rw [← q3] at i2 hld
      have hlt' : (k : Int) < n := by omega
      have hlt2 : (k : Int) < (n : Int) + 3 := by omega
      have hlt0 : (0 : Int) ≤ (k : Int) := by omega
      have hB2' : b2 < wr.heap.size := by omega
      have hB1' : b1 < wr.heap.size := by omega
      have HLD := hide hld
      clear hc hd q1 q2 q3 hc' hmem i1 hcell hld
      go_wp2_with fail
      go_region_held3 (fun w' => (w'.cell? ⟨b2, o2 + k * 3, none⟩ = some (.int .i64 c.e) ∧ w'.cell? ⟨b2, o2 + k * 3 + 1, none⟩ = some (.int .i64 c.n) ∧ w'.cell? ⟨b2, o2 + k * 3 + 2, none⟩ = some c.v) ∧ (w'.cell? ⟨b1, o1 + k * 3, none⟩ = some (.int .i64 c.e) ∧ w'.cell? ⟨b1, o1 + k * 3 + 1, none⟩ = some (.int .i64 c.n) ∧ w'.cell? ⟨b1, o1 + k * 3 + 2, none⟩ = some d.v)) (first | exact ⟨⟨c0, c1', c2'⟩, ⟨d0, d1, d2⟩⟩ | exact ⟨⟨a0, a1, a2⟩, ⟨x0, x1, x2⟩⟩ | go_keep)
        (first
        | (go_at_call 29; refine (keptC_yes c.e c.n _ _ c.l base _ (l2.below ((Below.refl _ _).drew)) (i2.drewN 1) HLD.out).mono ?_; rintro E w3 ⟨rfl, bel3'⟩; have bel3 : Below wr.heap.size wr w3 := ((Below.refl _ _).drew).trans bel3'; have a0 := (bel3.cell (p := ⟨b2, o2 + k * 3, none⟩) hB2').trans c0; have a1 := (bel3.cell (p := ⟨b2, o2 + k * 3 + 1, none⟩) hB2').trans c1'; have a2 := (bel3.cell (p := ⟨b2, o2 + k * 3 + 2, none⟩) hB2').trans c2'; have x0 := (bel3.cell (p := ⟨b1, o1 + k * 3, none⟩) hB1').trans d0; have x1 := (bel3.cell (p := ⟨b1, o1 + k * 3 + 1, none⟩) hB1').trans d1; have x2 := (bel3.cell (p := ⟨b1, o1 + k * 3 + 2, none⟩) hB1').trans d2; clear bel3'))
      have belR := bel.trans (bel3.mono (by omega))
      clear a0 a1 a2 x0 x1 x2 c0 c1' c2' d0 d1 d2 l2 i2 bel3 bel
      go_wp2
      go_roundw
      case rel => exact ⟨k + 1, by omega, by go_num, belR⟩
      case measure => simp [intOf]; omega
    · have hlt' : ¬ (k : Int) < n := by omega
      go_wp2
      go_loopw [6] (fun iv wr => ∃ (j : Nat), j ≤ 3 ∧ iv = .int .i64 ((n : Int) + (j : Int)) ∧ Below w.heap.size w wr) (fun iv _ => n + 3 - (intOf iv).toNat)
      case atStart => exact ⟨0, by omega, by simp, bel⟩
      case round =>
        obtain ⟨j, hj, rfl, belJ⟩ := hrel
        have szJ := belJ.size
        by_cases hlj : j < 3
        · have hc' : (rs ++ [behC, behC, behC])[n + j]? = some behC := by
            have := HRS.out
            rw [List.getElem?_append_right (by omega), this, Nat.add_sub_cancel_left]
            rcases (show j = 0 ∨ j = 1 ∨ j = 2 by omega) with rfl | rfl | rfl <;> rfl
          obtain ⟨c0, c1', c2'⟩ := row_at HC2.out belJ hB2 hc'
          have hj1 : (n : Int) + (j : Int) < (n : Int) + 3 := by omega
          have hj0 : (0 : Int) ≤ (n : Int) + (j : Int) := by omega
          have hjn : ((n : Int) + (j : Int)).toNat = n + j := by omega
          simp only [behC] at c0 c1' c2'
          clear hc'
          go_wp2_with fail
          refine (csameK_any (-7) 0 _ [] (-7) 0 _ [] _ (IsO.nil _) (IsO.nil _) (by simp) (by simp)).mono ?_
          rintro E w3 ⟨rfl, bel3⟩
          rw [sameC_self]
          have belR := belJ.trans (bel3.mono (by omega))
          clear c0 c1' c2' bel3
          go_wp2
          go_roundw
          case rel => exact ⟨j + 1, by omega, by go_num, belR⟩
          case measure => simp [intOf]; omega
        · have hj3 : j = 3 := by omega
          subst hj3
          go_wp2
          go_ret
          exact ⟨rfl, belJ⟩

end Go.Proofs.Ytklpbcdkgjoheaa
