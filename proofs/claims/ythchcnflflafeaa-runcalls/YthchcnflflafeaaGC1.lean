/- Texts of one layer, one behind the other. -/
import Derived.Test.YthchcnflflafeaaG19
import Derived.Test.YthchcnflflafeaaProg
import Derived.Test.YthchcnflflafeaaG9
import Derived.Test.YthchcnflflafeaaG8
import Derived.Deep.RegionHeld3
import Derived.Test.YthchcnflflafeaaG11
import Derived.Test.YthchcnflflafeaaG1
import Derived.Test.YthchcnflflafeaaG7
/- The order of a region's operations. -/
namespace Go.Proofs.Ythchcnflflafeaa
open Go.RowKit
set_option linter.unusedVariables false

theorem wya_st0 : Region.free .any (regOf 8 Try.f21) (lst 27 0) 0 = true ∧ (Region.ready .any (regOf 8 Try.f21) (lst 27 0)).contains 0 = true ∧ (lst 27 0).setIfInBounds 0 true = lst 27 1 := ⟨by kernel_rfl, by kernel_rfl, by kernel_rfl⟩

theorem wya_st1 : Region.free .any (regOf 8 Try.f21) (lst 27 1) 1 = true ∧ (Region.ready .any (regOf 8 Try.f21) (lst 27 1)).contains 1 = true ∧ (lst 27 1).setIfInBounds 1 true = lst 27 3 := ⟨by kernel_rfl, by kernel_rfl, by kernel_rfl⟩

theorem wya_st2 : Region.free .any (regOf 8 Try.f21) (lst 27 3) 2 = true ∧ (Region.ready .any (regOf 8 Try.f21) (lst 27 3)).contains 2 = true ∧ (lst 27 3).setIfInBounds 2 true = lst 27 7 := ⟨by kernel_rfl, by kernel_rfl, by kernel_rfl⟩

theorem wya_st3 : Region.free .any (regOf 8 Try.f21) (lst 27 7) 3 = true ∧ (Region.ready .any (regOf 8 Try.f21) (lst 27 7)).contains 3 = true ∧ (lst 27 7).setIfInBounds 3 true = lst 27 15 := ⟨by kernel_rfl, by kernel_rfl, by kernel_rfl⟩

theorem wya_st4 : Region.free .any (regOf 8 Try.f21) (lst 27 15) 4 = true ∧ (Region.ready .any (regOf 8 Try.f21) (lst 27 15)).contains 4 = true ∧ (lst 27 15).setIfInBounds 4 true = lst 27 31 := ⟨by kernel_rfl, by kernel_rfl, by kernel_rfl⟩

theorem wya_st5 : Region.ready .any (regOf 8 Try.f21) (lst 27 31) = [5] ∧ (lst 27 31).setIfInBounds 5 true = lst 27 63 := ⟨by kernel_rfl, by kernel_rfl⟩

theorem wya_st6 : Region.free .any (regOf 8 Try.f21) (lst 27 63) 6 = true ∧ (Region.ready .any (regOf 8 Try.f21) (lst 27 63)).contains 6 = true ∧ (lst 27 63).setIfInBounds 6 true = lst 27 127 := ⟨by kernel_rfl, by kernel_rfl, by kernel_rfl⟩

theorem wya_st7 : Region.free .any (regOf 8 Try.f21) (lst 27 127) 7 = true ∧ (Region.ready .any (regOf 8 Try.f21) (lst 27 127)).contains 7 = true ∧ (lst 27 127).setIfInBounds 7 true = lst 27 255 := ⟨by kernel_rfl, by kernel_rfl, by kernel_rfl⟩

theorem wya_st8 : Region.free .any (regOf 8 Try.f21) (lst 27 255) 8 = true ∧ (Region.ready .any (regOf 8 Try.f21) (lst 27 255)).contains 8 = true ∧ (lst 27 255).setIfInBounds 8 true = lst 27 511 := ⟨by kernel_rfl, by kernel_rfl, by kernel_rfl⟩

theorem wya_st9 : Region.free .any (regOf 8 Try.f21) (lst 27 511) 9 = true ∧ (Region.ready .any (regOf 8 Try.f21) (lst 27 511)).contains 9 = true ∧ (lst 27 511).setIfInBounds 9 true = lst 27 1023 := ⟨by kernel_rfl, by kernel_rfl, by kernel_rfl⟩

theorem wya_st10 : Region.free .any (regOf 8 Try.f21) (lst 27 1023) 10 = true ∧ (Region.ready .any (regOf 8 Try.f21) (lst 27 1023)).contains 10 = true ∧ (lst 27 1023).setIfInBounds 10 true = lst 27 2047 := ⟨by kernel_rfl, by kernel_rfl, by kernel_rfl⟩

theorem wya_st11 : Region.free .any (regOf 8 Try.f21) (lst 27 2047) 11 = true ∧ (Region.ready .any (regOf 8 Try.f21) (lst 27 2047)).contains 11 = true ∧ (lst 27 2047).setIfInBounds 11 true = lst 27 4095 := ⟨by kernel_rfl, by kernel_rfl, by kernel_rfl⟩

theorem wya_st12 : Region.free .any (regOf 8 Try.f21) (lst 27 4095) 12 = true ∧ (Region.ready .any (regOf 8 Try.f21) (lst 27 4095)).contains 12 = true ∧ (lst 27 4095).setIfInBounds 12 true = lst 27 8191 := ⟨by kernel_rfl, by kernel_rfl, by kernel_rfl⟩

theorem wya_st13 : Region.free .any (regOf 8 Try.f21) (lst 27 8191) 13 = true ∧ (Region.ready .any (regOf 8 Try.f21) (lst 27 8191)).contains 13 = true ∧ (lst 27 8191).setIfInBounds 13 true = lst 27 16383 := ⟨by kernel_rfl, by kernel_rfl, by kernel_rfl⟩

theorem wya_st14 : Region.free .any (regOf 8 Try.f21) (lst 27 16383) 14 = true ∧ (Region.ready .any (regOf 8 Try.f21) (lst 27 16383)).contains 14 = true ∧ (lst 27 16383).setIfInBounds 14 true = lst 27 32767 := ⟨by kernel_rfl, by kernel_rfl, by kernel_rfl⟩

theorem wya_st15 : Region.free .any (regOf 8 Try.f21) (lst 27 32767) 15 = true ∧ (Region.ready .any (regOf 8 Try.f21) (lst 27 32767)).contains 15 = true ∧ (lst 27 32767).setIfInBounds 15 true = lst 27 65535 := ⟨by kernel_rfl, by kernel_rfl, by kernel_rfl⟩

theorem wya_st16 : Region.free .any (regOf 8 Try.f21) (lst 27 65535) 16 = true ∧ (Region.ready .any (regOf 8 Try.f21) (lst 27 65535)).contains 16 = true ∧ (lst 27 65535).setIfInBounds 16 true = lst 27 131071 := ⟨by kernel_rfl, by kernel_rfl, by kernel_rfl⟩

theorem wya_st17 : Region.free .any (regOf 8 Try.f21) (lst 27 131071) 17 = true ∧ (Region.ready .any (regOf 8 Try.f21) (lst 27 131071)).contains 17 = true ∧ (lst 27 131071).setIfInBounds 17 true = lst 27 262143 := ⟨by kernel_rfl, by kernel_rfl, by kernel_rfl⟩

theorem wya_st18 : Region.free .any (regOf 8 Try.f21) (lst 27 262143) 18 = true ∧ (Region.ready .any (regOf 8 Try.f21) (lst 27 262143)).contains 18 = true ∧ (lst 27 262143).setIfInBounds 18 true = lst 27 524287 := ⟨by kernel_rfl, by kernel_rfl, by kernel_rfl⟩

theorem wya_st19 : Region.free .any (regOf 8 Try.f21) (lst 27 524287) 19 = true ∧ (Region.ready .any (regOf 8 Try.f21) (lst 27 524287)).contains 19 = true ∧ (lst 27 524287).setIfInBounds 19 true = lst 27 1048575 := ⟨by kernel_rfl, by kernel_rfl, by kernel_rfl⟩

theorem wya_st20 : Region.free .any (regOf 8 Try.f21) (lst 27 1048575) 20 = true ∧ (Region.ready .any (regOf 8 Try.f21) (lst 27 1048575)).contains 20 = true ∧ (lst 27 1048575).setIfInBounds 20 true = lst 27 2097151 := ⟨by kernel_rfl, by kernel_rfl, by kernel_rfl⟩

theorem wya_st21 : Region.free .any (regOf 8 Try.f21) (lst 27 2097151) 21 = true ∧ (Region.ready .any (regOf 8 Try.f21) (lst 27 2097151)).contains 21 = true ∧ (lst 27 2097151).setIfInBounds 21 true = lst 27 4194303 := ⟨by kernel_rfl, by kernel_rfl, by kernel_rfl⟩

theorem wya_st22 : Region.free .any (regOf 8 Try.f21) (lst 27 4194303) 22 = true ∧ (Region.ready .any (regOf 8 Try.f21) (lst 27 4194303)).contains 22 = true ∧ (lst 27 4194303).setIfInBounds 22 true = lst 27 8388607 := ⟨by kernel_rfl, by kernel_rfl, by kernel_rfl⟩

theorem wya_st23 : Region.free .any (regOf 8 Try.f21) (lst 27 8388607) 23 = true ∧ (Region.ready .any (regOf 8 Try.f21) (lst 27 8388607)).contains 23 = true ∧ (lst 27 8388607).setIfInBounds 23 true = lst 27 16777215 := ⟨by kernel_rfl, by kernel_rfl, by kernel_rfl⟩

theorem wya_st24 : Region.free .any (regOf 8 Try.f21) (lst 27 16777215) 24 = true ∧ (Region.ready .any (regOf 8 Try.f21) (lst 27 16777215)).contains 24 = true ∧ (lst 27 16777215).setIfInBounds 24 true = lst 27 33554431 := ⟨by kernel_rfl, by kernel_rfl, by kernel_rfl⟩

theorem wya_st25 : Region.free .any (regOf 8 Try.f21) (lst 27 33554431) 25 = true ∧ (Region.ready .any (regOf 8 Try.f21) (lst 27 33554431)).contains 25 = true ∧ (lst 27 33554431).setIfInBounds 25 true = lst 27 67108863 := ⟨by kernel_rfl, by kernel_rfl, by kernel_rfl⟩

theorem wya_st26 : Region.free .any (regOf 8 Try.f21) (lst 27 67108863) 26 = true ∧ (Region.ready .any (regOf 8 Try.f21) (lst 27 67108863)).contains 26 = true ∧ (lst 27 67108863).setIfInBounds 26 true = lst 27 134217727 := ⟨by kernel_rfl, by kernel_rfl, by kernel_rfl⟩

def wya_ord : List (Bool × Nat) := [(true, 0), (true, 1), (true, 2), (true, 3), (true, 4), (false, 5), (true, 6), (true, 7), (true, 8), (true, 9), (true, 10), (true, 11), (true, 12), (true, 13), (true, 14), (true, 15), (true, 16), (true, 17), (true, 18), (true, 19), (true, 20), (true, 21), (true, 22), (true, 23), (true, 24), (true, 25), (true, 26)]

theorem wya_end : Region.ready .any (regOf 8 Try.f21) (lst 27 134217727) = [] := by kernel_rfl

theorem wya_way : Way .any (regOf 8 Try.f21) (Array.replicate (regOf 8 Try.f21).size false) wya_ord := by
  have e : Array.replicate (regOf 8 Try.f21).size false = lst 27 0 := by kernel_rfl
  rw [e]
  unfold wya_ord
  refine .take wya_st0 ?_
  refine .take wya_st1 ?_
  refine .take wya_st2 ?_
  refine .take wya_st3 ?_
  refine .take wya_st4 ?_
  refine .meet wya_st5 ?_
  refine .take wya_st6 ?_
  refine .take wya_st7 ?_
  refine .take wya_st8 ?_
  refine .take wya_st9 ?_
  refine .take wya_st10 ?_
  refine .take wya_st11 ?_
  refine .take wya_st12 ?_
  refine .take wya_st13 ?_
  refine .take wya_st14 ?_
  refine .take wya_st15 ?_
  refine .take wya_st16 ?_
  refine .take wya_st17 ?_
  refine .take wya_st18 ?_
  refine .take wya_st19 ?_
  refine .take wya_st20 ?_
  refine .take wya_st21 ?_
  refine .take wya_st22 ?_
  refine .take wya_st23 ?_
  refine .take wya_st24 ?_
  refine .take wya_st25 ?_
  refine .take wya_st26 ?_
  exact .done wya_end

end Go.Proofs.Ythchcnflflafeaa

/- The contract of the document's Check of a run. -/
namespace Go.Proofs.Ythchcnflflafeaa
open Go.RowKit
open Bm (Ov)
set_option linter.unusedVariables false

theorem lst_at {l : List Ov} {j : Nat} {t : Ov} (h : l[j]? = some t) : Rn.lstK ⟨#[]⟩ (l.take (j + 1)) = t.k := by
  obtain ⟨h1, rfl⟩ := List.getElem?_eq_some_iff.1 h
  rw [List.take_succ_eq_append_getElem h1, Rn.lstK_snoc]

set_option maxRecDepth 20000 in
set_option maxHeartbeats 4000000 in
theorem hcheckR_any (e n : Int) (v : Value) (l : List Ov) (w : World) (h : IsO w v l) (hf : FitO l) (hl : l.length ≤ 140737488355328) :
    Calls Try.prog 21 #[cmv e n v] w fun E w' => E = .returned (.int .i64 (Rn.chk e n l)) ∧ Below w.heap.size w w' := by
  unfold cmv
  obtain ⟨w1, hw1, sz1, bel1, hB⟩ := blk_step w #[.int .i64 e, .int .i64 n, v] 32
  have c0 := blk_cell hB 0 rfl
  have c1 := blk_cell hB 1 rfl
  have c2 := blk_cell hB 2 rfl
  obtain ⟨ao, cap, hsv, _, _⟩ := h.shape
  have HFULL := hide fun (h0 : 0 < l.length) => h.full h0
  subst hsv
  have HF := hide hf
  obtain ⟨ans, hans⟩ : ∃ x, Rn.chk e n l = x := ⟨_, rfl⟩
  rw [hans]
  have HA := hide hans
  by_cases hlong : 1024 < l.length
  · have hfo := HA.out
    rw [Rn.chk_long hlong] at hfo
    subst hfo
    have hlong' : (1024 : Int) < (l.length : Int) := by omega
    generalize l.length = m at *
    clear HA h hf hans hB HFULL
    go_enter Try.func21, Try.ntmps21
    go_wp2
    go_ret
    exact ⟨rfl, bel1⟩
  have hlong' : ¬ (1024 : Int) < (l.length : Int) := by omega
  by_cases h1 : e < 1
  · have hfo := HA.out
    rw [Rn.chk_no hlong fun h => by omega] at hfo
    subst hfo
    generalize l.length = m at *
    clear HA h hf hans hB HFULL
    go_enter Try.func21, Try.ntmps21
    go_wp2
    go_ret
    exact ⟨rfl, bel1⟩
  by_cases h2 : n < e
  · have hfo := HA.out
    rw [Rn.chk_no hlong fun h => by omega] at hfo
    subst hfo
    generalize l.length = m at *
    clear HA h hf hans hB HFULL
    go_enter Try.func21, Try.ntmps21
    go_wp2
    go_ret
    exact ⟨rfl, bel1⟩
  by_cases h3 : (1048576 : Int) < n
  · have hfo := HA.out
    rw [Rn.chk_no hlong fun h => by omega] at hfo
    subst hfo
    generalize l.length = m at *
    clear HA h hf hans hB HFULL
    go_enter Try.func21, Try.ntmps21
    go_wp2
    go_ret
    exact ⟨rfl, bel1⟩
  have YES : Hid (Rn.may ⟨#[]⟩ l = true → ans = 0) := hide fun hm => by rw [← HA.out]; exact Rn.chk_ok hlong ⟨by omega, by omega, by omega, hm⟩
  have NO : Hid (Rn.may ⟨#[]⟩ l = false → ans = 2) := hide fun hm => by rw [← HA.out]; exact Rn.chk_no hlong fun h => by rw [hm] at h; simp at h
  obtain ⟨m, hmm⟩ : ∃ m, l.length = m := ⟨_, rfl⟩
  rw [hmm] at HFULL hl hlong hlong' c2 hw1 ⊢
  have HN := hide hmm
  clear HA h hf hans hB hmm
  go_enter Try.func21, Try.ntmps21
  go_wp2
  go_loopw [3] (fun iv wr => ∃ (k : Nat), k ≤ m ∧ iv = .int .i64 k ∧ Hid (Rn.may ⟨#[]⟩ (l.take k) = true) ∧ Below w1.heap.size w1 wr) (fun iv _ => m - (intOf iv).toNat)
  case atStart => exact ⟨0, by omega, rfl, hide (by simp [Rn.may]), Below.refl _ _⟩
  case round =>
    obtain ⟨k, hk, rfl, HT, bel⟩ := hrel
    have sz := bel.size
    have x2 := (bel.cell (p := ⟨w.heap.size, 2, none⟩) (show w.heap.size < w1.heap.size by omega)).trans c2
    have szb1 : w.heap.size < wr.heap.size := by omega
    by_cases hlt : k < m
    · obtain ⟨o, ho⟩ : ∃ o, l[k]? = some o := ⟨l[k]'(by have := HN.out; omega), by rw [List.getElem?_eq_getElem]⟩
      obtain ⟨b1, o1, cq, hvx, _, _, hB, hcell⟩ := HFULL.out (by omega)
      simp only [Value.slice.injEq, true_and] at hvx
      obtain ⟨rfl, rfl⟩ := hvx
      obtain ⟨a0, a1, a2⟩ := hcell k o ho
      have bel0 := bel1.trans (bel.mono bel1.size)
      have d0 := (bel0.cell (p := ⟨b1, o1 + k * 3, none⟩) hB).trans a0
      have d1 := (bel0.cell (p := ⟨b1, o1 + k * 3 + 1, none⟩) hB).trans a1
      have d2 := (bel0.cell (p := ⟨b1, o1 + k * 3 + 2, none⟩) hB).trans a2
      have hB' : b1 < wr.heap.size := by have := bel0.size; omega
      have HO := hide ho
      have hlt' : (k : Int) < m := by omega
      obtain ⟨hk1, hv1⟩ := HF.out o (List.mem_of_getElem? HO.out)
      have X := hide (fun W => checkR_any o.p o.k o.v W hk1 hv1)
      unfold opv at X
      have hcc := Om.chk_two o.p o.k.data.toList o.v.data.toList
      obtain ⟨cc, hcce⟩ : ∃ x, Om.chk o.p o.k.data.toList o.v.data.toList = x := ⟨_, rfl⟩
      rw [hcce] at X hcc
      have HCC := hide (show o.c = cc from hcce)
      clear hcce a0 a1 a2 ho
      rcases hcc with rfl | rfl
      · by_cases hk0 : k = 0
        · have k1 : ¬ (0 : Int) < k := by omega
          have r5 : ¬ 0 < k := by omega
          have HT2 : Hid (Rn.may ⟨#[]⟩ (l.take (k + 1)) = true) := hide (by
            refine (may_next HT.out HO.out HCC.out ?_).1
            rw [hk0]
            exact Rn.lt_none (Rn.key_pos HCC.out))
          clear hcell hk0
          go_wp2_with fail
          refine region_way (ops := (regOf 8 Try.f21)) (S := fun w' => w'.cell? ⟨w.heap.size, 2, none⟩ = some (.slice (some ⟨b1, o1, none⟩) m cap) ∧ (w'.cell? ⟨b1, o1 + k * 3, none⟩ = some (.bool o.p) ∧ w'.cell? ⟨b1, o1 + k * 3 + 1, none⟩ = some (.string o.k) ∧ w'.cell? ⟨b1, o1 + k * 3 + 2, none⟩ = some (.string o.v))) (by kernel_rfl) (by kernel_rfl) (fun _ _ _ _ _ h => h) wya_ord (by kernel_rfl) wya_way ⟨x2, d0, d1, d2⟩ ?_
          unfold wya_ord
          refine seq_take (v := ?_) rfl rfl (by rfl) ?_ ?_
          rotate_left 1
          · intro w hS
            (try dsimp only at hS)
            go_simp
            all_goals with_reducible rfl
          simp only [Act.put, List.setIfInBounds_toArray, List.set_cons_zero, List.set_cons_succ]
          refine seq_take (v := ?_) rfl rfl (by rfl) ?_ ?_
          rotate_left 1
          · intro w hS
            (try dsimp only at hS)
            go_simp
            all_goals with_reducible rfl
          simp only [Act.put, List.setIfInBounds_toArray, List.set_cons_zero, List.set_cons_succ]
          refine seq_take (v := ?_) rfl rfl (by rfl) ?_ ?_
          rotate_left 1
          · intro w hS
            (try dsimp only at hS)
            go_simp
            all_goals with_reducible rfl
          simp only [Act.put, List.setIfInBounds_toArray, List.set_cons_zero, List.set_cons_succ]
          refine seq_take (v := ?_) rfl rfl (by rfl) ?_ ?_
          rotate_left 1
          · intro w hS
            (try dsimp only at hS)
            go_simp
            all_goals with_reducible rfl
          simp only [Act.put, List.setIfInBounds_toArray, List.set_cons_zero, List.set_cons_succ]
          refine seq_take (v := ?_) rfl rfl (by rfl) ?_ ?_
          rotate_left 1
          · intro w hS
            (try dsimp only at hS)
            go_simp
            all_goals with_reducible rfl
          simp only [Act.put, List.setIfInBounds_toArray, List.set_cons_zero, List.set_cons_succ]
          refine seq_meet rfl (by rfl) (fun K hK => ?_)
          go_simp
          go_at_call 61
          refine (X.out _).mono ?_
          rintro E w3 ⟨rfl, bel3'⟩
          have bel3 : Below wr.heap.size wr w3 := ((Below.refl _ _).drew).trans bel3'
          have g2 := (bel3.cell (p := ⟨w.heap.size, 2, none⟩) szb1).trans x2
          have h0 := (bel3.cell (p := ⟨b1, o1 + k * 3, none⟩) hB').trans d0
          have h1 := (bel3.cell (p := ⟨b1, o1 + k * 3 + 1, none⟩) hB').trans d1
          have h2 := (bel3.cell (p := ⟨b1, o1 + k * 3 + 2, none⟩) hB').trans d2
          clear bel3'
          go_wp2_with fail
          refine hK.out _ _ ⟨g2, h0, h1, h2⟩ ?_
          clear hK K
          try simp only [Act.put, List.setIfInBounds_toArray, List.set_cons_zero, List.set_cons_succ]
          refine seq_take (v := ?_) rfl rfl (by rfl) ?_ ?_
          rotate_left 1
          · intro w hS
            (try dsimp only at hS)
            go_simp
            all_goals with_reducible rfl
          simp only [Act.put, List.setIfInBounds_toArray, List.set_cons_zero, List.set_cons_succ]
          refine seq_take (v := ?_) rfl rfl (by rfl) ?_ ?_
          rotate_left 1
          · intro w hS
            (try dsimp only at hS)
            go_simp
            all_goals with_reducible rfl
          simp only [Act.put, List.setIfInBounds_toArray, List.set_cons_zero, List.set_cons_succ]
          refine seq_take (v := ?_) rfl rfl (by rfl) ?_ ?_
          rotate_left 1
          · intro w hS
            (try dsimp only at hS)
            go_simp
            all_goals with_reducible rfl
          simp only [Act.put, List.setIfInBounds_toArray, List.set_cons_zero, List.set_cons_succ]
          refine seq_take (v := ?_) rfl rfl (by rfl) ?_ ?_
          rotate_left 1
          · intro w hS
            (try dsimp only at hS)
            go_simp
            all_goals with_reducible rfl
          simp only [Act.put, List.setIfInBounds_toArray, List.set_cons_zero, List.set_cons_succ]
          refine seq_take (v := ?_) rfl rfl (by rfl) ?_ ?_
          rotate_left 1
          · intro w hS
            (try dsimp only at hS)
            go_simp
            all_goals with_reducible rfl
          simp only [Act.put, List.setIfInBounds_toArray, List.set_cons_zero, List.set_cons_succ]
          refine seq_skip rfl rfl (by rfl) ?_
          simp only [Act.put, List.setIfInBounds_toArray, List.set_cons_zero, List.set_cons_succ]
          refine seq_skip rfl rfl (by rfl) ?_
          simp only [Act.put, List.setIfInBounds_toArray, List.set_cons_zero, List.set_cons_succ]
          refine seq_skip rfl rfl (by rfl) ?_
          simp only [Act.put, List.setIfInBounds_toArray, List.set_cons_zero, List.set_cons_succ]
          refine seq_skip rfl rfl (by rfl) ?_
          simp only [Act.put, List.setIfInBounds_toArray, List.set_cons_zero, List.set_cons_succ]
          refine seq_skip rfl rfl (by rfl) ?_
          simp only [Act.put, List.setIfInBounds_toArray, List.set_cons_zero, List.set_cons_succ]
          refine seq_skip rfl rfl (by rfl) ?_
          simp only [Act.put, List.setIfInBounds_toArray, List.set_cons_zero, List.set_cons_succ]
          refine seq_skip rfl rfl (by rfl) ?_
          simp only [Act.put, List.setIfInBounds_toArray, List.set_cons_zero, List.set_cons_succ]
          refine seq_skip rfl rfl (by rfl) ?_
          simp only [Act.put, List.setIfInBounds_toArray, List.set_cons_zero, List.set_cons_succ]
          refine seq_skip rfl rfl (by rfl) ?_
          simp only [Act.put, List.setIfInBounds_toArray, List.set_cons_zero, List.set_cons_succ]
          refine seq_skip rfl rfl (by rfl) ?_
          simp only [Act.put, List.setIfInBounds_toArray, List.set_cons_zero, List.set_cons_succ]
          refine seq_skip rfl rfl (by rfl) ?_
          simp only [Act.put, List.setIfInBounds_toArray, List.set_cons_zero, List.set_cons_succ]
          refine seq_skip rfl rfl (by rfl) ?_
          simp only [Act.put, List.setIfInBounds_toArray, List.set_cons_zero, List.set_cons_succ]
          refine seq_skip rfl rfl (by rfl) ?_
          simp only [Act.put, List.setIfInBounds_toArray, List.set_cons_zero, List.set_cons_succ]
          refine seq_skip rfl rfl (by rfl) ?_
          simp only [Act.put, List.setIfInBounds_toArray, List.set_cons_zero, List.set_cons_succ]
          refine seq_take (v := ?_) rfl rfl (by rfl) ?_ ?_
          rotate_left 1
          · intro w hS
            (try dsimp only at hS)
            go_simp
            all_goals with_reducible rfl
          simp only [Act.put, List.setIfInBounds_toArray, List.set_cons_zero, List.set_cons_succ]
          refine seq_take (v := ?_) rfl rfl (by rfl) ?_ ?_
          rotate_left 1
          · intro w hS
            (try dsimp only at hS)
            go_simp
            all_goals with_reducible rfl
          simp only [Act.put, List.setIfInBounds_toArray, List.set_cons_zero, List.set_cons_succ]
          unfold seqW
          have belR := bel.trans (bel3.mono sz)
          clear g2 h0 h1 h2 x2 d0 d1 d2 bel3 bel X
          go_wp2
          go_roundw
          case rel => exact ⟨k + 1, by omega, by go_num, HT2, belR⟩
          case measure => simp [intOf]; omega
        · obtain ⟨j, hkj⟩ : ∃ j, k = j + 1 := ⟨k - 1, by omega⟩
          obtain ⟨t, ht⟩ : ∃ t, l[j]? = some t := ⟨l[j]'(by have := HN.out; omega), by rw [List.getElem?_eq_getElem]⟩
          obtain ⟨_, b1', _⟩ := hcell j t ht
          have t1 := (bel0.cell (p := ⟨b1, o1 + j * 3 + 1, none⟩) hB).trans b1'
          have HL : Hid (Rn.lstK ⟨#[]⟩ (l.take k) = t.k) := hide (by rw [hkj]; exact lst_at ht)
          have hj0 : (0 : Int) ≤ (j : Int) := by omega
          have k1 : (0 : Int) < k := by omega
          have r5 : 0 < k := by omega
          have hsub : (k : Int) - 1 = (j : Int) := by omega
          have hjn : (j : Int) < m := by omega
          have hwj : IntKind.i64.wrap (j : Int) = (j : Int) := wrap_i64_small _ (by omega) (by omega)
          clear hcell b1' ht hkj
          cases hlk : Tm.lt t.k o.k with
          | true =>
            obtain ⟨q1, q2⟩ := key_on hlk
            have HT2 := hide (may_next HT.out HO.out HCC.out (by rw [HL.out]; exact hlk)).1
            clear hlk
            go_wp2_with fail
            refine region_way (ops := (regOf 8 Try.f21)) (S := fun w' => w'.cell? ⟨w.heap.size, 2, none⟩ = some (.slice (some ⟨b1, o1, none⟩) m cap) ∧ w'.cell? ⟨b1, o1 + j * 3 + 1, none⟩ = some (.string t.k) ∧ (w'.cell? ⟨b1, o1 + k * 3, none⟩ = some (.bool o.p) ∧ w'.cell? ⟨b1, o1 + k * 3 + 1, none⟩ = some (.string o.k) ∧ w'.cell? ⟨b1, o1 + k * 3 + 2, none⟩ = some (.string o.v))) (by kernel_rfl) (by kernel_rfl) (fun _ _ _ _ _ h => h) wya_ord (by kernel_rfl) wya_way ⟨x2, t1, d0, d1, d2⟩ ?_
            unfold wya_ord
            refine seq_take (v := ?_) rfl rfl (by rfl) ?_ ?_
            rotate_left 1
            · intro w hS
              (try dsimp only at hS)
              go_simp
              all_goals with_reducible rfl
            simp only [Act.put, List.setIfInBounds_toArray, List.set_cons_zero, List.set_cons_succ]
            refine seq_take (v := ?_) rfl rfl (by rfl) ?_ ?_
            rotate_left 1
            · intro w hS
              (try dsimp only at hS)
              go_simp
              all_goals with_reducible rfl
            simp only [Act.put, List.setIfInBounds_toArray, List.set_cons_zero, List.set_cons_succ]
            refine seq_take (v := ?_) rfl rfl (by rfl) ?_ ?_
            rotate_left 1
            · intro w hS
              (try dsimp only at hS)
              go_simp
              all_goals with_reducible rfl
            simp only [Act.put, List.setIfInBounds_toArray, List.set_cons_zero, List.set_cons_succ]
            refine seq_take (v := ?_) rfl rfl (by rfl) ?_ ?_
            rotate_left 1
            · intro w hS
              (try dsimp only at hS)
              go_simp
              all_goals with_reducible rfl
            simp only [Act.put, List.setIfInBounds_toArray, List.set_cons_zero, List.set_cons_succ]
            refine seq_take (v := ?_) rfl rfl (by rfl) ?_ ?_
            rotate_left 1
            · intro w hS
              (try dsimp only at hS)
              go_simp
              all_goals with_reducible rfl
            simp only [Act.put, List.setIfInBounds_toArray, List.set_cons_zero, List.set_cons_succ]
            refine seq_meet rfl (by rfl) (fun K hK => ?_)
            go_simp
            go_at_call 61
            refine (X.out _).mono ?_
            rintro E w3 ⟨rfl, bel3'⟩
            have bel3 : Below wr.heap.size wr w3 := ((Below.refl _ _).drew).trans bel3'
            have g2 := (bel3.cell (p := ⟨w.heap.size, 2, none⟩) szb1).trans x2
            have i1 := (bel3.cell (p := ⟨b1, o1 + j * 3 + 1, none⟩) hB').trans t1
            have h0 := (bel3.cell (p := ⟨b1, o1 + k * 3, none⟩) hB').trans d0
            have h1 := (bel3.cell (p := ⟨b1, o1 + k * 3 + 1, none⟩) hB').trans d1
            have h2 := (bel3.cell (p := ⟨b1, o1 + k * 3 + 2, none⟩) hB').trans d2
            clear bel3'
            go_wp2_with fail
            refine hK.out _ _ ⟨g2, i1, h0, h1, h2⟩ ?_
            clear hK K
            try simp only [Act.put, List.setIfInBounds_toArray, List.set_cons_zero, List.set_cons_succ]
            refine seq_take (v := ?_) rfl rfl (by rfl) ?_ ?_
            rotate_left 1
            · intro w hS
              (try dsimp only at hS)
              go_simp
              all_goals with_reducible rfl
            simp only [Act.put, List.setIfInBounds_toArray, List.set_cons_zero, List.set_cons_succ]
            refine seq_take (v := ?_) rfl rfl (by rfl) ?_ ?_
            rotate_left 1
            · intro w hS
              (try dsimp only at hS)
              go_simp
              all_goals with_reducible rfl
            simp only [Act.put, List.setIfInBounds_toArray, List.set_cons_zero, List.set_cons_succ]
            refine seq_take (v := ?_) rfl rfl (by rfl) ?_ ?_
            rotate_left 1
            · intro w hS
              (try dsimp only at hS)
              go_simp
              all_goals with_reducible rfl
            simp only [Act.put, List.setIfInBounds_toArray, List.set_cons_zero, List.set_cons_succ]
            refine seq_take (v := ?_) rfl rfl (by rfl) ?_ ?_
            rotate_left 1
            · intro w hS
              (try dsimp only at hS)
              go_simp
              all_goals with_reducible rfl
            simp only [Act.put, List.setIfInBounds_toArray, List.set_cons_zero, List.set_cons_succ]
            refine seq_take (v := ?_) rfl rfl (by rfl) ?_ ?_
            rotate_left 1
            · intro w hS
              (try dsimp only at hS)
              go_simp
              all_goals with_reducible rfl
            simp only [Act.put, List.setIfInBounds_toArray, List.set_cons_zero, List.set_cons_succ]
            refine seq_take (v := ?_) rfl rfl (by rfl) ?_ ?_
            rotate_left 1
            · intro w hS
              (try dsimp only at hS)
              go_simp
              all_goals with_reducible rfl
            simp only [Act.put, List.setIfInBounds_toArray, List.set_cons_zero, List.set_cons_succ]
            refine seq_take (v := ?_) rfl rfl (by rfl) ?_ ?_
            rotate_left 1
            · intro w hS
              (try dsimp only at hS)
              go_simp
              all_goals with_reducible rfl
            simp only [Act.put, List.setIfInBounds_toArray, List.set_cons_zero, List.set_cons_succ]
            refine seq_take (v := ?_) rfl rfl (by rfl) ?_ ?_
            rotate_left 1
            · intro w hS
              (try dsimp only at hS)
              go_simp
              all_goals with_reducible rfl
            simp only [Act.put, List.setIfInBounds_toArray, List.set_cons_zero, List.set_cons_succ]
            refine seq_take (v := ?_) rfl rfl (by rfl) ?_ ?_
            rotate_left 1
            · intro w hS
              (try dsimp only at hS)
              go_simp
              all_goals with_reducible rfl
            simp only [Act.put, List.setIfInBounds_toArray, List.set_cons_zero, List.set_cons_succ]
            refine seq_take (v := ?_) rfl rfl (by rfl) ?_ ?_
            rotate_left 1
            · intro w hS
              (try dsimp only at hS)
              go_simp
              all_goals with_reducible rfl
            simp only [Act.put, List.setIfInBounds_toArray, List.set_cons_zero, List.set_cons_succ]
            refine seq_take (v := ?_) rfl rfl (by rfl) ?_ ?_
            rotate_left 1
            · intro w hS
              (try dsimp only at hS)
              go_simp
              all_goals with_reducible rfl
            simp only [Act.put, List.setIfInBounds_toArray, List.set_cons_zero, List.set_cons_succ]
            refine seq_take (v := ?_) rfl rfl (by rfl) ?_ ?_
            rotate_left 1
            · intro w hS
              (try dsimp only at hS)
              go_simp
              all_goals with_reducible rfl
            simp only [Act.put, List.setIfInBounds_toArray, List.set_cons_zero, List.set_cons_succ]
            refine seq_take (v := ?_) rfl rfl (by rfl) ?_ ?_
            rotate_left 1
            · intro w hS
              (try dsimp only at hS)
              go_simp
              all_goals with_reducible rfl
            simp only [Act.put, List.setIfInBounds_toArray, List.set_cons_zero, List.set_cons_succ]
            refine seq_take (v := ?_) rfl rfl (by rfl) ?_ ?_
            rotate_left 1
            · intro w hS
              (try dsimp only at hS)
              go_simp
              all_goals with_reducible rfl
            simp only [Act.put, List.setIfInBounds_toArray, List.set_cons_zero, List.set_cons_succ]
            refine seq_take (v := ?_) rfl rfl (by rfl) ?_ ?_
            rotate_left 1
            · intro w hS
              (try dsimp only at hS)
              go_simp
              all_goals with_reducible rfl
            simp only [Act.put, List.setIfInBounds_toArray, List.set_cons_zero, List.set_cons_succ]
            refine seq_take (v := ?_) rfl rfl (by rfl) ?_ ?_
            rotate_left 1
            · intro w hS
              (try dsimp only at hS)
              go_simp
              all_goals with_reducible rfl
            simp only [Act.put, List.setIfInBounds_toArray, List.set_cons_zero, List.set_cons_succ]
            refine seq_take (v := ?_) rfl rfl (by rfl) ?_ ?_
            rotate_left 1
            · intro w hS
              (try dsimp only at hS)
              go_simp
              all_goals with_reducible rfl
            simp only [Act.put, List.setIfInBounds_toArray, List.set_cons_zero, List.set_cons_succ]
            refine seq_take (v := ?_) rfl rfl (by rfl) ?_ ?_
            rotate_left 1
            · intro w hS
              (try dsimp only at hS)
              go_simp
              all_goals with_reducible rfl
            simp only [Act.put, List.setIfInBounds_toArray, List.set_cons_zero, List.set_cons_succ]
            refine seq_take (v := ?_) rfl rfl (by rfl) ?_ ?_
            rotate_left 1
            · intro w hS
              (try dsimp only at hS)
              go_simp
              all_goals with_reducible rfl
            simp only [Act.put, List.setIfInBounds_toArray, List.set_cons_zero, List.set_cons_succ]
            refine seq_take (v := ?_) rfl rfl (by rfl) ?_ ?_
            rotate_left 1
            · intro w hS
              (try dsimp only at hS)
              go_simp
              all_goals with_reducible rfl
            simp only [Act.put, List.setIfInBounds_toArray, List.set_cons_zero, List.set_cons_succ]
            refine seq_take (v := ?_) rfl rfl (by rfl) ?_ ?_
            rotate_left 1
            · intro w hS
              (try dsimp only at hS)
              go_simp
              all_goals with_reducible rfl
            simp only [Act.put, List.setIfInBounds_toArray, List.set_cons_zero, List.set_cons_succ]
            unfold seqW
            have belR := bel.trans (bel3.mono sz)
            clear g2 h0 h1 h2 i1 t1 x2 d0 d1 d2 bel3 bel X
            go_wp2
            go_roundw
            case rel => exact ⟨k + 1, by omega, by go_num, HT2, belR⟩
            case measure => simp [intOf]; omega
          | false =>
            obtain rfl := NO.out (may_stop HO.out (.inr (by rw [HL.out]; exact hlk)))
            obtain ⟨x, y, q1, q2, q3⟩ : ∃ x y, Op.bytesLess o.k.toList t.k.toList = x ∧ (o.k.toList == t.k.toList) = y ∧ (x || y) = true := ⟨_, _, rfl, rfl, by
              rcases key_off hlk with ⟨q1, _⟩ | ⟨_, q2⟩
              · rw [q1]; rfl
              · rw [q2]; simp⟩
            clear hlk
            go_wp2_with fail
            refine region_way (ops := (regOf 8 Try.f21)) (S := fun w' => w'.cell? ⟨w.heap.size, 2, none⟩ = some (.slice (some ⟨b1, o1, none⟩) m cap) ∧ w'.cell? ⟨b1, o1 + j * 3 + 1, none⟩ = some (.string t.k) ∧ (w'.cell? ⟨b1, o1 + k * 3, none⟩ = some (.bool o.p) ∧ w'.cell? ⟨b1, o1 + k * 3 + 1, none⟩ = some (.string o.k) ∧ w'.cell? ⟨b1, o1 + k * 3 + 2, none⟩ = some (.string o.v))) (by kernel_rfl) (by kernel_rfl) (fun _ _ _ _ _ h => h) wya_ord (by kernel_rfl) wya_way ⟨x2, t1, d0, d1, d2⟩ ?_
            unfold wya_ord
            refine seq_take (v := ?_) rfl rfl (by rfl) ?_ ?_
            rotate_left 1
            · intro w hS
              (try dsimp only at hS)
              go_simp
              all_goals with_reducible rfl
            simp only [Act.put, List.setIfInBounds_toArray, List.set_cons_zero, List.set_cons_succ]
            refine seq_take (v := ?_) rfl rfl (by rfl) ?_ ?_
            rotate_left 1
            · intro w hS
              (try dsimp only at hS)
              go_simp
              all_goals with_reducible rfl
            simp only [Act.put, List.setIfInBounds_toArray, List.set_cons_zero, List.set_cons_succ]
            refine seq_take (v := ?_) rfl rfl (by rfl) ?_ ?_
            rotate_left 1
            · intro w hS
              (try dsimp only at hS)
              go_simp
              all_goals with_reducible rfl
            simp only [Act.put, List.setIfInBounds_toArray, List.set_cons_zero, List.set_cons_succ]
            refine seq_take (v := ?_) rfl rfl (by rfl) ?_ ?_
            rotate_left 1
            · intro w hS
              (try dsimp only at hS)
              go_simp
              all_goals with_reducible rfl
            simp only [Act.put, List.setIfInBounds_toArray, List.set_cons_zero, List.set_cons_succ]
            refine seq_take (v := ?_) rfl rfl (by rfl) ?_ ?_
            rotate_left 1
            · intro w hS
              (try dsimp only at hS)
              go_simp
              all_goals with_reducible rfl
            simp only [Act.put, List.setIfInBounds_toArray, List.set_cons_zero, List.set_cons_succ]
            refine seq_meet rfl (by rfl) (fun K hK => ?_)
            go_simp
            go_at_call 61
            refine (X.out _).mono ?_
            rintro E w3 ⟨rfl, bel3'⟩
            have bel3 : Below wr.heap.size wr w3 := ((Below.refl _ _).drew).trans bel3'
            have g2 := (bel3.cell (p := ⟨w.heap.size, 2, none⟩) szb1).trans x2
            have i1 := (bel3.cell (p := ⟨b1, o1 + j * 3 + 1, none⟩) hB').trans t1
            have h0 := (bel3.cell (p := ⟨b1, o1 + k * 3, none⟩) hB').trans d0
            have h1 := (bel3.cell (p := ⟨b1, o1 + k * 3 + 1, none⟩) hB').trans d1
            have h2 := (bel3.cell (p := ⟨b1, o1 + k * 3 + 2, none⟩) hB').trans d2
            clear bel3'
            go_wp2_with fail
            refine hK.out _ _ ⟨g2, i1, h0, h1, h2⟩ ?_
            clear hK K
            try simp only [Act.put, List.setIfInBounds_toArray, List.set_cons_zero, List.set_cons_succ]
            refine seq_take (v := ?_) rfl rfl (by rfl) ?_ ?_
            rotate_left 1
            · intro w hS
              (try dsimp only at hS)
              go_simp
              all_goals with_reducible rfl
            simp only [Act.put, List.setIfInBounds_toArray, List.set_cons_zero, List.set_cons_succ]
            refine seq_take (v := ?_) rfl rfl (by rfl) ?_ ?_
            rotate_left 1
            · intro w hS
              (try dsimp only at hS)
              go_simp
              all_goals with_reducible rfl
            simp only [Act.put, List.setIfInBounds_toArray, List.set_cons_zero, List.set_cons_succ]
            refine seq_take (v := ?_) rfl rfl (by rfl) ?_ ?_
            rotate_left 1
            · intro w hS
              (try dsimp only at hS)
              go_simp
              all_goals with_reducible rfl
            simp only [Act.put, List.setIfInBounds_toArray, List.set_cons_zero, List.set_cons_succ]
            refine seq_take (v := ?_) rfl rfl (by rfl) ?_ ?_
            rotate_left 1
            · intro w hS
              (try dsimp only at hS)
              go_simp
              all_goals with_reducible rfl
            simp only [Act.put, List.setIfInBounds_toArray, List.set_cons_zero, List.set_cons_succ]
            refine seq_take (v := ?_) rfl rfl (by rfl) ?_ ?_
            rotate_left 1
            · intro w hS
              (try dsimp only at hS)
              go_simp
              all_goals with_reducible rfl
            simp only [Act.put, List.setIfInBounds_toArray, List.set_cons_zero, List.set_cons_succ]
            refine seq_take (v := ?_) rfl rfl (by rfl) ?_ ?_
            rotate_left 1
            · intro w hS
              (try dsimp only at hS)
              go_simp
              all_goals with_reducible rfl
            simp only [Act.put, List.setIfInBounds_toArray, List.set_cons_zero, List.set_cons_succ]
            refine seq_take (v := ?_) rfl rfl (by rfl) ?_ ?_
            rotate_left 1
            · intro w hS
              (try dsimp only at hS)
              go_simp
              all_goals with_reducible rfl
            simp only [Act.put, List.setIfInBounds_toArray, List.set_cons_zero, List.set_cons_succ]
            refine seq_take (v := ?_) rfl rfl (by rfl) ?_ ?_
            rotate_left 1
            · intro w hS
              (try dsimp only at hS)
              go_simp
              all_goals with_reducible rfl
            simp only [Act.put, List.setIfInBounds_toArray, List.set_cons_zero, List.set_cons_succ]
            refine seq_take (v := ?_) rfl rfl (by rfl) ?_ ?_
            rotate_left 1
            · intro w hS
              (try dsimp only at hS)
              go_simp
              all_goals with_reducible rfl
            simp only [Act.put, List.setIfInBounds_toArray, List.set_cons_zero, List.set_cons_succ]
            refine seq_take (v := ?_) rfl rfl (by rfl) ?_ ?_
            rotate_left 1
            · intro w hS
              (try dsimp only at hS)
              go_simp
              all_goals with_reducible rfl
            simp only [Act.put, List.setIfInBounds_toArray, List.set_cons_zero, List.set_cons_succ]
            refine seq_take (v := ?_) rfl rfl (by rfl) ?_ ?_
            rotate_left 1
            · intro w hS
              (try dsimp only at hS)
              go_simp
              all_goals with_reducible rfl
            simp only [Act.put, List.setIfInBounds_toArray, List.set_cons_zero, List.set_cons_succ]
            refine seq_take (v := ?_) rfl rfl (by rfl) ?_ ?_
            rotate_left 1
            · intro w hS
              (try dsimp only at hS)
              go_simp
              all_goals with_reducible rfl
            simp only [Act.put, List.setIfInBounds_toArray, List.set_cons_zero, List.set_cons_succ]
            refine seq_take (v := ?_) rfl rfl (by rfl) ?_ ?_
            rotate_left 1
            · intro w hS
              (try dsimp only at hS)
              go_simp
              all_goals with_reducible rfl
            simp only [Act.put, List.setIfInBounds_toArray, List.set_cons_zero, List.set_cons_succ]
            refine seq_take (v := ?_) rfl rfl (by rfl) ?_ ?_
            rotate_left 1
            · intro w hS
              (try dsimp only at hS)
              go_simp
              all_goals with_reducible rfl
            simp only [Act.put, List.setIfInBounds_toArray, List.set_cons_zero, List.set_cons_succ]
            refine seq_take (v := ?_) rfl rfl (by rfl) ?_ ?_
            rotate_left 1
            · intro w hS
              (try dsimp only at hS)
              go_simp
              all_goals with_reducible rfl
            simp only [Act.put, List.setIfInBounds_toArray, List.set_cons_zero, List.set_cons_succ]
            refine seq_take (v := ?_) rfl rfl (by rfl) ?_ ?_
            rotate_left 1
            · intro w hS
              (try dsimp only at hS)
              go_simp
              all_goals with_reducible rfl
            simp only [Act.put, List.setIfInBounds_toArray, List.set_cons_zero, List.set_cons_succ]
            refine seq_take (v := ?_) rfl rfl (by rfl) ?_ ?_
            rotate_left 1
            · intro w hS
              (try dsimp only at hS)
              go_simp
              all_goals with_reducible rfl
            simp only [Act.put, List.setIfInBounds_toArray, List.set_cons_zero, List.set_cons_succ]
            refine seq_take (v := ?_) rfl rfl (by rfl) ?_ ?_
            rotate_left 1
            · intro w hS
              (try dsimp only at hS)
              go_simp
              all_goals with_reducible rfl
            simp only [Act.put, List.setIfInBounds_toArray, List.set_cons_zero, List.set_cons_succ]
            refine seq_take (v := ?_) rfl rfl (by rfl) ?_ ?_
            rotate_left 1
            · intro w hS
              (try dsimp only at hS)
              go_simp
              all_goals with_reducible rfl
            simp only [Act.put, List.setIfInBounds_toArray, List.set_cons_zero, List.set_cons_succ]
            refine seq_take (v := ?_) rfl rfl (by rfl) ?_ ?_
            rotate_left 1
            · intro w hS
              (try dsimp only at hS)
              go_simp
              all_goals with_reducible rfl
            simp only [Act.put, List.setIfInBounds_toArray, List.set_cons_zero, List.set_cons_succ]
            refine seq_take (v := ?_) rfl rfl (by rfl) ?_ ?_
            rotate_left 1
            · intro w hS
              (try dsimp only at hS)
              go_simp
              all_goals with_reducible rfl
            simp only [Act.put, List.setIfInBounds_toArray, List.set_cons_zero, List.set_cons_succ]
            unfold seqW
            have belR := bel1.trans ((bel.trans (bel3.mono sz)).mono bel1.size)
            clear g2 h0 h1 h2 i1 t1 x2 d0 d1 d2 bel3 bel X
            go_wp2
            go_ret
            exact ⟨rfl, belR⟩
      · obtain rfl := NO.out (may_stop HO.out (.inl (by rw [HCC.out]; decide)))
        clear hcell
        go_wp2_with fail
        refine region_way (ops := (regOf 8 Try.f21)) (S := fun w' => w'.cell? ⟨w.heap.size, 2, none⟩ = some (.slice (some ⟨b1, o1, none⟩) m cap) ∧ (w'.cell? ⟨b1, o1 + k * 3, none⟩ = some (.bool o.p) ∧ w'.cell? ⟨b1, o1 + k * 3 + 1, none⟩ = some (.string o.k) ∧ w'.cell? ⟨b1, o1 + k * 3 + 2, none⟩ = some (.string o.v))) (by kernel_rfl) (by kernel_rfl) (fun _ _ _ _ _ h => h) wya_ord (by kernel_rfl) wya_way ⟨x2, d0, d1, d2⟩ ?_
        unfold wya_ord
        refine seq_take (v := ?_) rfl rfl (by rfl) ?_ ?_
        rotate_left 1
        · intro w hS
          (try dsimp only at hS)
          go_simp
          all_goals with_reducible rfl
        simp only [Act.put, List.setIfInBounds_toArray, List.set_cons_zero, List.set_cons_succ]
        refine seq_take (v := ?_) rfl rfl (by rfl) ?_ ?_
        rotate_left 1
        · intro w hS
          (try dsimp only at hS)
          go_simp
          all_goals with_reducible rfl
        simp only [Act.put, List.setIfInBounds_toArray, List.set_cons_zero, List.set_cons_succ]
        refine seq_take (v := ?_) rfl rfl (by rfl) ?_ ?_
        rotate_left 1
        · intro w hS
          (try dsimp only at hS)
          go_simp
          all_goals with_reducible rfl
        simp only [Act.put, List.setIfInBounds_toArray, List.set_cons_zero, List.set_cons_succ]
        refine seq_take (v := ?_) rfl rfl (by rfl) ?_ ?_
        rotate_left 1
        · intro w hS
          (try dsimp only at hS)
          go_simp
          all_goals with_reducible rfl
        simp only [Act.put, List.setIfInBounds_toArray, List.set_cons_zero, List.set_cons_succ]
        refine seq_take (v := ?_) rfl rfl (by rfl) ?_ ?_
        rotate_left 1
        · intro w hS
          (try dsimp only at hS)
          go_simp
          all_goals with_reducible rfl
        simp only [Act.put, List.setIfInBounds_toArray, List.set_cons_zero, List.set_cons_succ]
        refine seq_meet rfl (by rfl) (fun K hK => ?_)
        go_simp
        go_at_call 61
        refine (X.out _).mono ?_
        rintro E w3 ⟨rfl, bel3'⟩
        have bel3 : Below wr.heap.size wr w3 := ((Below.refl _ _).drew).trans bel3'
        have g2 := (bel3.cell (p := ⟨w.heap.size, 2, none⟩) szb1).trans x2
        have h0 := (bel3.cell (p := ⟨b1, o1 + k * 3, none⟩) hB').trans d0
        have h1 := (bel3.cell (p := ⟨b1, o1 + k * 3 + 1, none⟩) hB').trans d1
        have h2 := (bel3.cell (p := ⟨b1, o1 + k * 3 + 2, none⟩) hB').trans d2
        clear bel3'
        go_wp2_with fail
        refine hK.out _ _ ⟨g2, h0, h1, h2⟩ ?_
        clear hK K
        try simp only [Act.put, List.setIfInBounds_toArray, List.set_cons_zero, List.set_cons_succ]
        refine seq_take (v := ?_) rfl rfl (by rfl) ?_ ?_
        rotate_left 1
        · intro w hS
          (try dsimp only at hS)
          go_simp
          all_goals with_reducible rfl
        simp only [Act.put, List.setIfInBounds_toArray, List.set_cons_zero, List.set_cons_succ]
        refine seq_take (v := ?_) rfl rfl (by rfl) ?_ ?_
        rotate_left 1
        · intro w hS
          (try dsimp only at hS)
          go_simp
          all_goals with_reducible rfl
        simp only [Act.put, List.setIfInBounds_toArray, List.set_cons_zero, List.set_cons_succ]
        refine seq_skip rfl rfl (by rfl) ?_
        simp only [Act.put, List.setIfInBounds_toArray, List.set_cons_zero, List.set_cons_succ]
        refine seq_skip rfl rfl (by rfl) ?_
        simp only [Act.put, List.setIfInBounds_toArray, List.set_cons_zero, List.set_cons_succ]
        refine seq_skip rfl rfl (by rfl) ?_
        simp only [Act.put, List.setIfInBounds_toArray, List.set_cons_zero, List.set_cons_succ]
        refine seq_skip rfl rfl (by rfl) ?_
        simp only [Act.put, List.setIfInBounds_toArray, List.set_cons_zero, List.set_cons_succ]
        refine seq_skip rfl rfl (by rfl) ?_
        simp only [Act.put, List.setIfInBounds_toArray, List.set_cons_zero, List.set_cons_succ]
        refine seq_skip rfl rfl (by rfl) ?_
        simp only [Act.put, List.setIfInBounds_toArray, List.set_cons_zero, List.set_cons_succ]
        refine seq_skip rfl rfl (by rfl) ?_
        simp only [Act.put, List.setIfInBounds_toArray, List.set_cons_zero, List.set_cons_succ]
        refine seq_skip rfl rfl (by rfl) ?_
        simp only [Act.put, List.setIfInBounds_toArray, List.set_cons_zero, List.set_cons_succ]
        refine seq_skip rfl rfl (by rfl) ?_
        simp only [Act.put, List.setIfInBounds_toArray, List.set_cons_zero, List.set_cons_succ]
        refine seq_skip rfl rfl (by rfl) ?_
        simp only [Act.put, List.setIfInBounds_toArray, List.set_cons_zero, List.set_cons_succ]
        refine seq_skip rfl rfl (by rfl) ?_
        simp only [Act.put, List.setIfInBounds_toArray, List.set_cons_zero, List.set_cons_succ]
        refine seq_skip rfl rfl (by rfl) ?_
        simp only [Act.put, List.setIfInBounds_toArray, List.set_cons_zero, List.set_cons_succ]
        refine seq_skip rfl rfl (by rfl) ?_
        simp only [Act.put, List.setIfInBounds_toArray, List.set_cons_zero, List.set_cons_succ]
        refine seq_skip rfl rfl (by rfl) ?_
        simp only [Act.put, List.setIfInBounds_toArray, List.set_cons_zero, List.set_cons_succ]
        refine seq_skip rfl rfl (by rfl) ?_
        simp only [Act.put, List.setIfInBounds_toArray, List.set_cons_zero, List.set_cons_succ]
        refine seq_skip rfl rfl (by rfl) ?_
        simp only [Act.put, List.setIfInBounds_toArray, List.set_cons_zero, List.set_cons_succ]
        refine seq_skip rfl rfl (by rfl) ?_
        simp only [Act.put, List.setIfInBounds_toArray, List.set_cons_zero, List.set_cons_succ]
        refine seq_skip rfl rfl (by rfl) ?_
        simp only [Act.put, List.setIfInBounds_toArray, List.set_cons_zero, List.set_cons_succ]
        refine seq_take (v := ?_) rfl rfl (by rfl) ?_ ?_
        rotate_left 1
        · intro w hS
          (try dsimp only at hS)
          go_simp
          all_goals with_reducible rfl
        simp only [Act.put, List.setIfInBounds_toArray, List.set_cons_zero, List.set_cons_succ]
        unfold seqW
        have belR := bel1.trans ((bel.trans (bel3.mono sz)).mono bel1.size)
        clear g2 h0 h1 h2 x2 d0 d1 d2 bel3 bel X
        go_wp2
        go_ret
        exact ⟨rfl, belR⟩
    · have hlt' : ¬ (k : Int) < m := by omega
      obtain rfl := YES.out (by have h1 := HT.out; rw [List.take_of_length_le (by have := HN.out; omega)] at h1; exact h1)
      have belR := bel1.trans (bel.mono bel1.size)
      clear bel
      go_wp2
      go_ret
      exact ⟨rfl, belR⟩

end Go.Proofs.Ythchcnflflafeaa

/- The contract of the document's Encode of a run. -/
namespace Go.Proofs.Ythchcnflflafeaa
open Go.RowKit
open Bm (Ov)
set_option linter.unusedVariables false

set_option maxRecDepth 20000 in
set_option maxHeartbeats 2000000 in
theorem hencR_any (e n : Int) (v : Value) (l : List Ov) (w : World) (h : IsO w v l) (hf : FitO l) (hl : l.length ≤ 140737488355328) :
    Calls Try.prog 18 #[cmv e n v] w fun E w' => ∃ vb, E = .returned (.tuple #[vb, .int .i64 (Rn.chk e n l)]) ∧ Own .u8 5 w.heap.size w' vb (Rn.out e n l) ∧ Below w.heap.size w w' := by
  obtain ⟨w1, hw1, sz1, bel1, hB⟩ := blk_step w #[.int .i64 e, .int .i64 n, v] 32
  have c0 := blk_cell hB 0 rfl
  have c1 := blk_cell hB 1 rfl
  have c2 := blk_cell hB 2 rfl
  have HM := hide (hcheckR_any e n v l w1 (h.below bel1) hf hl)
  have HFULL := hide fun (h0 : 0 < l.length) => h.full h0
  unfold cmv at HM ⊢
  obtain ⟨ao, cap, rfl, _, _⟩ := h.shape
  obtain ⟨ch, hch⟩ : ∃ x, Rn.chk e n l = x := ⟨_, rfl⟩
  rw [hch] at HM ⊢
  have HA := hide hch
  have HF := hide hf
  obtain ⟨m, hmm⟩ : ∃ m, l.length = m := ⟨_, rfl⟩
  rw [hmm] at HFULL hl c2 hw1 HM ⊢
  have HN := hide hmm
  clear h hf hch hB hmm
  go_enter Try.func18, Try.ntmps18
  go_wp2_with fail
  refine HM.out.mono ?_
  rintro E w2 ⟨rfl, bel2⟩
  have sz2 := bel2.size
  have bel02 := bel1.trans (bel2.mono bel1.size)
  have CE : Hid (∀ W, Below w2.heap.size w2 W → W.cell? ⟨w.heap.size, 0, none⟩ = some (.int .i64 e) ∧ W.cell? ⟨w.heap.size, 1, none⟩ = some (.int .i64 n) ∧ W.cell? ⟨w.heap.size, 2, none⟩ = some (.slice ao m cap)) := hide fun W hb =>
    ⟨(hb.cell (p := ⟨w.heap.size, 0, none⟩) (show w.heap.size < w2.heap.size by omega)).trans ((bel2.cell (p := ⟨w.heap.size, 0, none⟩) (show w.heap.size < w1.heap.size by omega)).trans c0), (hb.cell (p := ⟨w.heap.size, 1, none⟩) (show w.heap.size < w2.heap.size by omega)).trans ((bel2.cell (p := ⟨w.heap.size, 1, none⟩) (show w.heap.size < w1.heap.size by omega)).trans c1),
      (hb.cell (p := ⟨w.heap.size, 2, none⟩) (show w.heap.size < w2.heap.size by omega)).trans ((bel2.cell (p := ⟨w.heap.size, 2, none⟩) (show w.heap.size < w1.heap.size by omega)).trans c2)⟩
  obtain ⟨d0, d1, d2⟩ := CE.out w2 (Below.refl _ _)
  clear c0 c1 c2 HM bel2
  by_cases h0 : ch = 0
  · subst h0
    have HZ := hide (Rn.chk_zero HA.out)
    obtain ⟨g1, g2, g3, g4, _⟩ := HZ.out
    rw [HN.out] at g1
    have hml : (m : Int) ≤ 1024 := by omega
    have HNM := hide (fun k => nmb_len (f := e) (u := n) (m := m) (by omega) g4 g1 k)
    go_wp2_with fail
    refine (putR_any (.slice none 0 0) [] e _ (Is.nil _ _) (by simp) (by omega) (by omega)).mono ?_
    rintro E w3 ⟨v3, rfl, own3, bel3⟩
    rw [List.nil_append] at own3
    have sz3 := bel3.size
    clear d0 d1 d2
    obtain ⟨d0, d1, d2⟩ := CE.out w3 bel3
    have q1 := HNM.out 1
    unfold nmb at q1
    go_wp2_with fail
    refine (putR_any v3 _ n _ own3.is (by omega) (by omega) (by omega)).mono ?_
    rintro E w4 ⟨v4, rfl, own4, bel4⟩
    have bel24 := bel3.trans (bel4.mono sz3)
    have sz4 := bel24.size
    clear d0 d1 d2 own3 bel3 bel4 q1
    obtain ⟨d0, d1, d2⟩ := CE.out w4 bel24
    have q2 := HNM.out 2
    unfold nmb at q2
    go_wp2_with fail
    refine (putR_any v4 _ m _ own4.is (by omega) (by omega) (by omega)).mono ?_
    rintro E w5 ⟨v5, rfl, own5, bel5⟩
    have bel25 := bel24.trans (bel5.mono sz4)
    have sz5 := bel5.size
    have own6 : Own .u8 5 w.heap.size w5 v5 (nmb e n m 3) := own5.rebase (base' := w.heap.size) (by omega)
    clear d0 d1 d2 own4 own5 bel5 bel24 q2
    have hq3 := HNM.out 3
    go_wp2
    go_loopw [5, 6] (fun bb kk wr => ∃ k : Nat, k ≤ m ∧ kk = .int .i64 k ∧ Own .u8 5 w.heap.size wr bb (nmb e n m 3 ++ Rn.ens (l.take k)) ∧ Below w2.heap.size w2 wr) (fun _ kk _ => m - (intOf kk).toNat)
    case atStart => exact ⟨0, by omega, rfl, by simpa [Rn.ens] using own6, bel25⟩
    case round =>
      obtain ⟨k, hk, rfl, ownk, belk⟩ := hrel
      have szk := belk.size
      have bel := bel02.trans (belk.mono bel02.size)
      have sz := bel.size
      obtain ⟨x0, x1, x2⟩ := CE.out wr belk
      by_cases hlt : k < m
      · obtain ⟨o, ho⟩ : ∃ o, l[k]? = some o := ⟨l[k]'(by have := HN.out; omega), by rw [List.getElem?_eq_getElem]⟩
        obtain ⟨b1, o1, cq, hvx, _, _, hB, hcell⟩ := HFULL.out (by omega)
        simp only [Value.slice.injEq, true_and] at hvx
        obtain ⟨rfl, rfl⟩ := hvx
        obtain ⟨c0, c1, c2⟩ := hcell k o ho
        have d0 := (bel.cell (p := ⟨b1, o1 + k * 3, none⟩) hB).trans c0
        have d1 := (bel.cell (p := ⟨b1, o1 + k * 3 + 1, none⟩) hB).trans c1
        have d2 := (bel.cell (p := ⟨b1, o1 + k * 3 + 2, none⟩) hB).trans c2
        have HO := hide ho
        clear c0 c1 c2 ho hcell
        have hlt' : (k : Int) < m := by omega
        obtain ⟨hk1, hv1⟩ := HF.out o (List.mem_of_getElem? HO.out)
        have hoc : o.c = 0 := Rn.may_c HZ.out.2.2.2.2 o (List.mem_of_getElem? HO.out)
        have hle2 : (Rn.ens (l.take k)).length ≤ 51 * 1024 := by
          have := Rn.ens_le (l := l.take k) fun q hq => Rn.may_c HZ.out.2.2.2.2 q (List.mem_of_mem_take hq)
          rw [List.length_take] at this
          omega
        have isk := ownk.is
        clear ownk
        go_wp2_with fail
        refine (oappR_any _ _ o.p o.k o.v _ isk (by rw [List.length_append]; omega) hk1 hv1).mono ?_
        rintro E w7 ⟨v7, rfl, own7, bel7⟩
        have hok : Om.chk o.p o.k.data.toList o.v.data.toList = 0 := hoc
        rw [Om.appd_ok hok, List.append_assoc] at own7
        rw [hok]
        have own8 : Own .u8 5 w.heap.size w7 v7 (nmb e n m 3 ++ Rn.ens (l.take (k + 1))) := by
          rw [ens_next HO.out]
          exact own7.rebase (by omega)
        have bel8 := belk.trans (bel7.mono szk)
        clear own7 bel7 isk hok hoc x0 x1 x2 d0 d1 d2
        go_wp2
        go_roundw
        case rel => exact ⟨k + 1, by omega, by go_num, own8, bel8⟩
        case measure => simp [intOf]; omega
      · have hlt' : ¬ (k : Int) < m := by omega
        have OW : Hid (Own .u8 5 w.heap.size wr u5 (Rn.out e n l)) := hide (by
          rw [Rn.out_ok HA.out, ← nmb_all, HN.out]
          rw [List.take_of_length_le (by have := HN.out; omega)] at ownk
          exact ownk)
        clear ownk
        go_wp2
        go_ret2
        exact ⟨_, rfl, OW.out, bel⟩
  · have hne : (ch != 0) = true := by simp [h0]
    have HO : Hid (Rn.out e n l = []) := hide (Rn.out_no (by rw [HA.out]; exact h0))
    go_wp2
    go_ret2
    exact ⟨_, rfl, by rw [HO.out]; exact Own.nil _ _ _ _, bel02⟩

end Go.Proofs.Ythchcnflflafeaa

/- The contracts of the document's reader: Small, Bytes. -/
namespace Go.Proofs.Ythchcnflflafeaa
open Go.RowKit
set_option linter.unusedVariables false

theorem Try.elemB : Try.prog.underlying 38 = some (.slice (Try.prog.elem 38)) := by kernel_rfl
theorem Try.sizeE (wx : World) : (sizeOf (Try.prog.elem 38)).run Try.prog wx = .ok 1 wx := by kernel_rfl

/-- A reader in block g: of the bytes bs (they lie where w0 has them), at a place, bad or not. -/
def Rdr (w0 w : World) (g : Nat) (vb : Value) (bs : List Int) (a : Nat) (bad : Bool) : Prop :=
  Is .u8 w0 vb bs ∧ w0.heap.size ≤ g ∧ Below w0.heap.size w0 w ∧ w.heap[g]? = some (.cells #[vb, .int .i64 a, .bool bad] 96 (0, 0)) ∧ a ≤ bs.length

theorem Rdr.lt {w0 w : World} {g a : Nat} {vb : Value} {bs : List Int} {bad : Bool} (h : Rdr w0 w g vb bs a bad) : g < w.heap.size := by
  rcases Nat.lt_or_ge g w.heap.size with h' | h'
  · exact h'
  · have := h.2.2.2.1
    simp [Array.getElem?_eq_none h'] at this

theorem Rdr.is {w0 w : World} {g a : Nat} {vb : Value} {bs : List Int} {bad : Bool} (h : Rdr w0 w g vb bs a bad) : Is .u8 w vb bs := h.1.below h.2.2.1

theorem Rdr.below {w0 w w' : World} {g a : Nat} {vb : Value} {bs : List Int} {bad : Bool} (h : Rdr w0 w g vb bs a bad) (hb : Below w.heap.size w w') : Rdr w0 w' g vb bs a bad := by
  have hl := h.lt
  have hs := h.2.2.1.size
  exact ⟨h.1, h.2.1, h.2.2.1.trans (hb.mono hs), (hb.block g hl).trans h.2.2.2.1, h.2.2.2.2⟩

theorem Rdr.cell0 {w0 w : World} {g a : Nat} {vb : Value} {bs : List Int} {bad : Bool} (h : Rdr w0 w g vb bs a bad) : w.cell? ⟨g, 0, none⟩ = some vb := by simp [World.cell?, h.2.2.2.1]
theorem Rdr.cell1 {w0 w : World} {g a : Nat} {vb : Value} {bs : List Int} {bad : Bool} (h : Rdr w0 w g vb bs a bad) : w.cell? ⟨g, 1, none⟩ = some (.int .i64 a) := by simp [World.cell?, h.2.2.2.1]
theorem Rdr.cell2 {w0 w : World} {g a : Nat} {vb : Value} {bs : List Int} {bad : Bool} (h : Rdr w0 w g vb bs a bad) : w.cell? ⟨g, 2, none⟩ = some (.bool bad) := by simp [World.cell?, h.2.2.2.1]
theorem Rdr.froz {w0 w : World} {g a : Nat} {vb : Value} {bs : List Int} {bad : Bool} (h : Rdr w0 w g vb bs a bad) (j : Nat) : w.frozen? ⟨g, j, none⟩ = false := by simp [World.frozen?, h.2.2.2.1]

theorem Rdr.put1 {w0 w : World} {g a : Nat} {vb : Value} {bs : List Int} {bad : Bool} (h : Rdr w0 w g vb bs a bad) (a' : Nat) (ha : a' ≤ bs.length) : Rdr w0 (w.setCell ⟨g, 1, none⟩ (.int .i64 a')) g vb bs a' bad :=
  ⟨h.1, h.2.1, h.2.2.1.setCell (p := ⟨g, 1, none⟩) h.2.1 _, by rw [set_cells h.2.2.2.1]; rfl, ha⟩
theorem Rdr.put2 {w0 w : World} {g a : Nat} {vb : Value} {bs : List Int} {bad : Bool} (h : Rdr w0 w g vb bs a bad) (bad' : Bool) : Rdr w0 (w.setCell ⟨g, 2, none⟩ (.bool bad')) g vb bs a bad' :=
  ⟨h.1, h.2.1, h.2.2.1.setCell (p := ⟨g, 2, none⟩) h.2.1 _, by rw [set_cells h.2.2.2.1]; rfl, h.2.2.2.2⟩

/-- What a reader's Small does. -/
def SStep (bs : List Int) (most a : Nat) (bad : Bool) (u a' : Nat) (bad' : Bool) : Prop :=
  (bad = true ∧ bad' = true ∧ u = 0 ∧ a' = a) ∨ (bad = false ∧ bad' = true ∧ u = 0 ∧ a' = a ∧ ∀ x : Nat, x ≤ most → ¬ Vm.enc x <+: bs.drop a) ∨ (bad = false ∧ bad' = false ∧ u ≤ most ∧ Vm.enc u <+: bs.drop a ∧ a' = a + Vm.sz u)

/-- What a reader's Bytes does. -/
def BStep (bs : List Int) (n a : Nat) (bad : Bool) (zs : List Int) (a' : Nat) (bad' : Bool) : Prop :=
  ((bad = true ∨ bs.length - a < n) ∧ bad' = true ∧ zs = [] ∧ a' = a) ∨ (bad = false ∧ n ≤ bs.length - a ∧ bad' = false ∧ zs = (bs.drop a).take n ∧ a' = a + n)

set_option maxHeartbeats 400000 in
theorem rsmall_any (w0 w : World) (g : Nat) (vb : Value) (bs : List Int) (a : Nat) (bad : Bool) (most : Nat) (h : Rdr w0 w g vb bs a bad) (hl : bs.length ≤ 150000000000000) (hm : most < 9223372036854775808) :
    Calls Try.prog 58 #[.pointer (some ⟨g, 0, none⟩), .int .i64 most] w fun E w' => ∃ (u a' : Nat) (bad' : Bool), E = .returned (.int .i64 u) ∧ Rdr w0 w' g vb bs a' bad' ∧ w.grownBy w' (some g) ∧ SStep bs most a bad u a' bad' := by
  have c0 := h.cell0
  have c1 := h.cell1
  have c2 := h.cell2
  have ha := h.2.2.2.2
  cases bad
  · obtain ⟨vs, hsl, isl⟩ := h.is.slice_l Try.elemB Try.sizeE a ha
    obtain ⟨u, i, e, hS⟩ := sres_is (bs.drop a) most
    have hdl : (bs.drop a).length = bs.length - a := by rw [List.length_drop]
    rcases hS with ⟨hR, h1, h2, he⟩ | ⟨hu, hi, he, x, n, f, hR, hcase⟩
    · have hbd := Vm.res_bounds hR
      obtain ⟨un, rfl⟩ : ∃ un : Nat, u = un := ⟨u.toNat, by omega⟩
      obtain ⟨n, rfl⟩ : ∃ n : Nat, i = n := ⟨i.toNat, by omega⟩
      have hG : SStep bs most a false un (a + n) false := by
        rcases hR with ⟨x, hx, hp, h3, h4, _⟩ | ⟨_, _, _, h5⟩
        · have : x = un := by omega
          subst this
          exact .inr (.inr ⟨rfl, rfl, by omega, hp, by omega⟩)
        · simp at h5
      have hS : SRes (bs.drop a) most un n 0 := .inl ⟨hR, h1, h2, rfl⟩
      have HG := hide hG
      have HS := hide hS
      have HH := hide h
      have hn1 : a + n ≤ bs.length := by omega
      have hn2 : n ≤ 10 := by omega
      clear hS hG hR hbd h he h1 h2
      go_enter Try.func58, Try.ntmps58
      go_wp2_with fail
      go_region_with (go_at_call 92; refine (smallR_any _ (bs.drop a) most un n 0 _ (isl.drewN 1) (by omega) (by omega) (by omega) HS.out).mono ?_; rintro E w1 ⟨rfl, bel1'⟩; have bel1 : Below w.heap.size w w1 := ((Below.refl _ _).drew).trans bel1'; have hr := HH.out.below bel1; have k1 := hr.cell1; have f1 := hr.froz 1; have HR := hide hr; clear hr bel1')
      all_goals
        clear isl hsl
        go_wp2
        go_ret
        exact ⟨un, a + n, false, rfl, HR.out.put1 (a + n) hn1, grown_trans (grown_of_below bel1 _) (grown_setCell _ _ _), HG.out⟩
    · have hG : SStep bs most a false 0 a true := by
        refine .inr (.inl ⟨rfl, rfl, rfl, rfl, fun y hy hp => ?_⟩)
        have := Vm.res_good hR (u := y) (by omega) hp
        omega
      have hS : SRes (bs.drop a) most 0 0 5 := .inr ⟨rfl, rfl, rfl, x, n, f, hR, hcase⟩
      have HG := hide hG
      have HS := hide hS
      have HH := hide h
      clear hS hG hR h he hcase hu hi
      go_enter Try.func58, Try.ntmps58
      go_wp2_with fail
      go_region_with (go_at_call 92; refine (smallR_any _ (bs.drop a) most 0 0 5 _ (isl.drewN 1) (by omega) (by omega) (by omega) HS.out).mono ?_; rintro E w1 ⟨rfl, bel1'⟩; have bel1 : Below w.heap.size w w1 := ((Below.refl _ _).drew).trans bel1'; have hr := HH.out.below bel1; have k1 := hr.cell2; have f1 := hr.froz 2; have HR := hide hr; clear hr bel1')
      all_goals
        clear isl hsl
        go_wp2
        go_ret
        exact ⟨0, a, true, rfl, HR.out.put2 true, grown_trans (grown_of_below bel1 _) (grown_setCell _ _ _), HG.out⟩
  · have HH := hide h
    clear h
    go_enter Try.func58, Try.ntmps58
    go_wp2
    go_ret
    exact ⟨0, a, true, rfl, HH.out, World.grownBy.refl _ _, .inl ⟨rfl, rfl, rfl, rfl⟩⟩

set_option maxHeartbeats 400000 in
theorem rbytes_any (w0 w : World) (g : Nat) (vb : Value) (bs : List Int) (a : Nat) (bad : Bool) (n : Nat) (h : Rdr w0 w g vb bs a bad) (hl : bs.length ≤ 150000000000000) (hm : n < 9223372036854775808) :
    Calls Try.prog 93 #[.pointer (some ⟨g, 0, none⟩), .int .i64 n] w fun E w' => ∃ (v : Value) (zs : List Int) (a' : Nat) (bad' : Bool), E = .returned v ∧ Own .u8 5 w.heap.size w' v zs ∧ Rdr w0 w' g vb bs a' bad' ∧ w.grownBy w' (some g) ∧ BStep bs n a bad zs a' bad' := by
  have c0 := h.cell0
  have c1 := h.cell1
  have c2 := h.cell2
  have f1 := h.froz 1
  have f2 := h.froz 2
  have ha := h.2.2.2.2
  have hgl := h.lt
  have hlen := h.is.len_run Try.elemB
  cases bad
  · by_cases hn : n ≤ bs.length - a
    · obtain ⟨vs, hsl, isl⟩ := h.is.slice_lh Try.elemB Try.sizeE a (a + n) (by omega) (by omega)
      rw [show a + n - a = n by omega] at isl
      have hsl2 : ∀ wx, (Instr.slice 38 vb (some (.int .i64 (a : Int))) (some (.int .i64 ((a : Int) + (n : Int)))) none).run Try.prog wx = .ok vs wx := by simpa using hsl
      have hwr : IntKind.i64.wrap ((a : Int) + (n : Int)) = (a : Int) + n := wrap_i64_small _ (by omega) (by omega)
      clear hsl
      have hge : ¬ (bs.length : Int) - a < n := by omega
      have HH := hide h
      have hlt : ((bs.drop a).take n).length = n := by rw [List.length_take, List.length_drop]; omega
      clear h
      go_enter Try.func93, Try.ntmps93
      go_wp2_with fail
      go_quiet (fail)
      have is2 : ∀ m, Is .u8 (w.drewN m) vs ((bs.drop a).take n) := fun m => isl.drewN m
      go_wp2_with fail
      go_region_law (refine step_append_is rfl (.tmp 27) (.tmp 42) 38 rfl .u8 5 w.heap.size 1 Try.underlying38 Try.info5 (by decide) _ [] (by simp [Act.eval, Act.put]) (Own.nil _ _ _ _) _ ((bs.drop a).take n) (by simp [Act.eval, Act.put]) (is2 _) (by simp; omega) (by simp) ?_; intro v3 w3 own3 bel3' _; have bel3 : Below w.heap.size w w3 := (below_drewN (Below.refl _ _) _).trans bel3'; have hr := HH.out.below bel3; have k1 := hr.cell1; have g1 := hr.froz 1; have HR := hide hr; clear hr bel3')
      all_goals
        rw [List.nil_append] at own3
        have own4 := own3.kept (grown_setCell w3 ⟨g, 1, none⟩ (.int .i64 ((a + n : Nat) : Int))) (by
          cases hv : v3.ownBlock with
          | none => exact .inl rfl
          | some b => exact .inr (fun e => by have := own3.block b hv; simp at e; omega))
        clear is2 isl hsl2
        go_wp2
        go_ret
        exact ⟨_, _, a + n, false, rfl, own4, HR.out.put1 (a + n) (by omega), grown_trans (grown_of_below bel3 _) (grown_setCell _ _ _), .inr ⟨rfl, hn, rfl, rfl, rfl⟩⟩
    · have hge : (bs.length : Int) - a < n := by omega
      have HH := hide h
      clear h
      go_enter Try.func93, Try.ntmps93
      go_wp2_with fail
      go_quiet (fail)
      go_wp2
      go_ret
      exact ⟨_, [], a, true, rfl, Own.nil _ _ _ _, (HH.out.below (below_drewN (Below.refl _ _) nq)).put2 true, grown_trans (grown_drewN _ _ _) (grown_setCell _ _ _), .inl ⟨.inr (by omega), rfl, rfl, rfl⟩⟩
  · have HH := hide h
    clear h
    go_enter Try.func93, Try.ntmps93
    go_wp2_with fail
    go_quiet (fail)
    go_wp2
    go_ret
    exact ⟨_, [], a, true, rfl, Own.nil _ _ _ _, (HH.out.below (below_drewN (Below.refl _ _) nq)).put2 true, grown_trans (grown_drewN _ _ _) (grown_setCell _ _ _), .inl ⟨.inl rfl, rfl, rfl, rfl⟩⟩

end Go.Proofs.Ythchcnflflafeaa
