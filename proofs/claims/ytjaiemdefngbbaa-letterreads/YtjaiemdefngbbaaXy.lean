/- The statements' own: lives, small. -/
import Derived.Test.YtjaiemdefngbbaaXk
namespace Go.Proofs.Ytjaiemdefngbbaa
open Go.RowKit
set_option linter.unusedVariables false

def exA : Mw := ⟨3, 2, 0, 7, .slice none 0 0, [], 0, 0, .slice none 0 0, []⟩
def exH (v : Value) : Mw := ⟨1, 2, 2, 3, v, [(1, 1), (2, 3)], 0, 0, .slice none 0 0, []⟩

theorem exA_ok : Mm.Ok exA.m := by
  refine ⟨by decide, by decide, .inr (.inr ⟨rfl, by decide, by decide, rfl, rfl, rfl, rfl, rfl⟩)⟩
theorem exH_ok (v : Value) : Mm.Ok (exH v).m := by
  refine ⟨by show (1 : Int) ≤ 2; decide, by show (2 : Int) ≤ 1048576; decide, .inl ⟨rfl, by show (1 : Int) ≤ 2; decide, by show (2 : Int) ≤ 3; decide, ?_, ?_, rfl, rfl, rfl⟩⟩
  · show Sm.Ok [(1, 1), (2, 3)] 3
    unfold Sm.Ok Sm.Up Sm.Up Sm.Up
    simp
  · show Sm.lst [(1, 1), (2, 3)] ≤ 2
    decide
theorem exA_enc : Mm.enc exA.m = [3, 2, 7] := by
  unfold Mm.enc
  rw [Mm.hd_3 rfl]
  simp [exA, Mw.m, cvs, Pm.encs, Fm.cat, Vm.enc_lo]
theorem exH_enc (v : Value) : Mm.enc (exH v).m = [1, 2, 2, 3, 2, 1, 1, 2, 3] := by
  unfold Mm.enc
  rw [Mm.hd_1 rfl]
  simp [exH, Mw.m, cvs, Mm.fl, Pm.encs, Fm.cat, Vm.enc_lo]

theorem exA_fit : FitM exA := ⟨by simp [In64, exA], by simp [In64, exA], by simp [exA], by simp [exA], by simp [In64, exA], by simp [In64, exA], by simp [In64, exA], by simp [exA], fun c hc => by simp [exA] at hc, by simp [exA]⟩
theorem exH_fit (v : Value) : FitM (exH v) := ⟨by simp [In64, exH], by simp [In64, exH], by simp [exH], by simp [exH], by simp [In64, exH], by simp [In64, exH], by simp [In64, exH], by simp [exH], fun c hc => by simp [exH] at hc, by simp [exH]⟩

set_option maxRecDepth 100000 in
set_option maxHeartbeats 1000000 in
theorem lives_any (w : World) : Calls Try.prog 12 #[] w fun E w' => E = .returned (.bool true) ∧ Below w.heap.size w w' := by
  have C1 := hide (mencode_any exA [3, 2, 7] 0 w ⟨RowG.nil _ _, IsC.nil _⟩ exA_fit (.inl ⟨rfl, exA_ok, exA_enc.symm⟩))
  unfold mv exA at C1
  go_enter Try.func12, Try.ntmps12
  go_wp2_with fail
  refine C1.out.mono ?_
  rintro E w1 ⟨va, rfl, own1, bel1⟩
  have sz1 := bel1.size
  obtain ⟨w2, hw2, sz2', bel2, own2⟩ := sts_step w1 #[.int .i64 1, .int .i64 1, .int .i64 2, .int .i64 3] 2 [(1, 1), (2, 3)] rfl rfl (by simp [maxLen])
  have sz2 : w1.heap.size ≤ w2.heap.size := by omega
  have C2 := hide (mencode_any (exH (.slice (some ⟨w1.heap.size, 0, none⟩) 2 2)) [1, 2, 2, 3, 2, 1, 1, 2, 3] 0 w2 ⟨own2.row, IsC.nil _⟩ (exH_fit _) (.inl ⟨rfl, exH_ok _, (exH_enc _).symm⟩))
  unfold mv exH at C2
  have O2 := hide (own1.below bel2)
  have bel02 := bel1.trans (bel2.mono (by omega))
  clear own1 own2 bel1 bel2 sz2' C1
  go_wp2_with fail
  refine C2.out.mono ?_
  rintro E w3 ⟨vb, rfl, own3, bel3⟩
  have sz3 := bel3.size
  have O3 := hide (O2.out.below bel3)
  have bel03 := bel02.trans (bel3.mono (by omega))
  obtain ⟨w4, hw4, sz4', bel4, own4⟩ := own_step .u8 5 w3 #[.int .u8 3, .int .u8 2, .int .u8 7] 3 [3, 2, 7] rfl rfl (by simp [maxLen]) (by decide)
  have sz4 : w3.heap.size ≤ w4.heap.size := by omega
  have C4 := hide (same_yes _ _ [3, 2, 7] [3, 2, 7] w4 (O3.out.below bel4).is own4.is (by simp) rfl)
  have P4 := hide (own3.below bel4)
  have bel04 := bel03.trans (bel4.mono (by omega))
  clear C2 O2 O3 own3 own4 bel3 bel4 bel02 bel03 hw2 sz4'
  go_wp2_with fail
  refine C4.out.mono ?_
  rintro E w5 ⟨rfl, bel5⟩
  have sz5 := bel5.size
  obtain ⟨w6, hw6, sz6', bel6, own6⟩ := own_step .u8 5 w5 #[.int .u8 1, .int .u8 2, .int .u8 2, .int .u8 3, .int .u8 2, .int .u8 1, .int .u8 1, .int .u8 2, .int .u8 3] 9 [1, 2, 2, 3, 2, 1, 1, 2, 3] rfl rfl (by simp [maxLen]) (by decide)
  have sz6 : w5.heap.size ≤ w6.heap.size := by omega
  have C6 := hide (same_yes _ _ [1, 2, 2, 3, 2, 1, 1, 2, 3] [1, 2, 2, 3, 2, 1, 1, 2, 3] w6 ((P4.out.below bel5).below bel6).is own6.is (by simp) rfl)
  have bel06 := (bel04.trans (bel5.mono (by omega))).trans (bel6.mono (by omega))
  clear C4 P4 own6 bel04 bel5 bel6 hw4 sz6'
  go_wp2_with fail
  refine C6.out.mono ?_
  rintro E w7 ⟨rfl, bel7⟩
  have bel07 := bel06.trans (bel7.mono (by omega))
  go_wp2
  go_ret
  exact ⟨rfl, bel07⟩

/-- What small asks. -/
def SmlM (m : Mw) : Prop := (∀ c ∈ m.cs, c.l.length ≤ 40) ∧ m.ss.length ≤ 40 ∧ m.cs.length ≤ 40

set_option maxRecDepth 100000 in
set_option maxHeartbeats 1000000 in
theorem small_m (m : Mw) (ans : Bool) (w : World) (hi : IsM w m) (hf : FitM m) (h : Yes ans (SmlM m)) :
    Calls Try.prog 13 #[mv m] w fun E w' => E = .returned (.bool ans) ∧ Below w.heap.size w w' := by
  have HD : Hid (Yes ans (SmlM m)) := hide h
  have NO : Hid (¬ SmlM m → ans = false) := hide fun k => HD.out.no k
  obtain ⟨ao, cap, hvs, _, _⟩ := hi.s.shape
  obtain ⟨ao2, cap2, hvc, _, _⟩ := hi.c.1.shape
  rw [mv_eq hvs hvc]
  obtain ⟨w1, hw1, sz1, bel1, hA⟩ := newm' w m hvs hvc
  obtain ⟨c0, c1, c2, c3, c4, c5, c6, c7⟩ := hA.ei' hvs hvc
  have HI := hide hi
  have HF := hide hf.fc
  have hls := hf.ls
  have hlc := hf.lc
  have C := hide (isC_cells hi.c)
  rw [hvc] at C
  clear h hA hi hf hvs hvc
  generalize hn : m.cs.length = n at *
  generalize hn2 : m.ss.length = n2 at *
  have HN := hide hn
  have HN2 := hide hn2
  clear hn hn2
  go_enter Try.func13, Try.ntmps13
  go_wp2
  go_loopw [3] (fun i wr => ∃ (k : Nat), k ≤ n ∧ i = .int .i64 k ∧ Hid (∀ (j : Nat) (c : Cw), j < k → m.cs[j]? = some c → c.l.length ≤ 40) ∧ wr = w1) (fun i _ => n - (intOf i).toNat)
  case atStart => exact ⟨0, by omega, rfl, hide (fun j c hj => by omega), rfl⟩
  case round =>
    obtain ⟨k, hk, rfl, HT, rfl⟩ := hrel
    by_cases hlt : k < n
    · obtain ⟨b1, o1, x1, hv1, hB1, hc1⟩ := C.out (by have := HN.out; omega)
      simp only [Value.slice.injEq, true_and] at hv1
      obtain ⟨rfl, rfl⟩ := hv1
      obtain ⟨s, hs⟩ := at_of (l := m.cs) (k := k) (by have := HN.out; omega)
      obtain ⟨_, _, g2⟩ := hc1 k s hs
      have hmem := List.mem_of_getElem? hs
      obtain ⟨sa, sc, hsv, _, _⟩ := (HI.out.c.2 s hmem).1.shape
      have hsl := (HF.out s hmem).2
      rw [hsv] at g2
      have d2 := (bel1.cell (p := ⟨b1, o1 + k * 3 + 2, none⟩) hB1).trans g2
      have hlt' : (k : Int) < n := by omega
      have HS := hide hs
      clear hs hc1 g2 hsv hmem
      by_cases hx : s.l.length ≤ 40
      · have HT2 : Hid (∀ (j : Nat) (c : Cw), j < k + 1 → m.cs[j]? = some c → c.l.length ≤ 40) := hide fun j c hj hc => by
          rcases Nat.lt_or_ge j k with g | g
          · exact HT.out j c g hc
          · have : j = k := by omega
            subst this
            rw [HS.out] at hc
            have := Option.some.inj hc
            subst this
            omega
        generalize s.l.length = q at *
        have hx' : ¬ (40 : Int) < q := by omega
        clear hx
        go_wp2
        go_roundw
        case rel => exact ⟨k + 1, by omega, by go_num, HT2, trivial⟩
        case measure => simp [intOf]; omega
      · obtain rfl := NO.out fun p => hx (p.1 s (List.mem_of_getElem? HS.out))
        generalize s.l.length = q at *
        have hx' : (40 : Int) < q := by omega
        clear hx
        go_wp2
        go_ret
        exact ⟨rfl, bel1⟩
    · have hlt' : ¬ (k : Int) < n := by omega
      have HALL : Hid (∀ c ∈ m.cs, c.l.length ≤ 40) := hide fun c hc => by
        obtain ⟨j, hj⟩ := List.getElem?_of_mem hc
        exact HT.out j c (by have := (List.getElem?_eq_some_iff.1 hj).1; have := HN.out; omega) hj
      by_cases h1 : n2 ≤ 40
      · by_cases h2 : n ≤ 40
        · obtain rfl := HD.out.yes ⟨HALL.out, by have := HN2.out; omega, by have := HN.out; omega⟩
          have h1' : (n2 : Int) ≤ 40 := by omega
          have h2' : (n : Int) ≤ 40 := by omega
          go_wp2
          go_ret
          exact ⟨rfl, bel1⟩
        · obtain rfl := NO.out fun p => h2 (by have := p.2.2; have := HN.out; omega)
          have h1' : (n2 : Int) ≤ 40 := by omega
          have h2' : ¬ (n : Int) ≤ 40 := by omega
          clear h2
          go_wp2
          go_ret
          exact ⟨rfl, bel1⟩
      · obtain rfl := NO.out fun p => h1 (by have := p.2.1; have := HN2.out; omega)
        have h1' : ¬ (n2 : Int) ≤ 40 := by omega
        clear h1
        go_wp2
        go_ret
        exact ⟨rfl, bel1⟩

end Go.Proofs.Ytjaiemdefngbbaa
