/- The walk of the law VarintRow: it returns true. -/
import Derived.Test.YtgffjdkcoijniaaBackWalk
import Derived.Test.YtgffjdkcoijniaaCat
namespace Go.Proofs.Ytgffjdkcoijniaa
open Go.RowKit
set_option linter.unusedVariables false

theorem Try.info3 : (Try.prog.info? 3).map (fun i => (i.zero, i.size, i.bytes)) = some (some (.int .i64 0), 1, 8) := by kernel_rfl

set_option maxHeartbeats 400000 in
theorem pick_any (x n : Int) (w : World) (hn : 0 < n) (hn2 : n < 9223372036854775808) (hx : -9223372036854775808 ≤ x) (hx2 : x < 9223372036854775808) :
    Calls Try.prog 22 #[.int .i64 x, .int .i64 n] w fun e w' => (∃ p : Nat, (p : Int) < n ∧ e = .returned (.int .i64 p)) ∧ w = w' := by
  have hnz : (n == 0) = false := by simp; omega
  have ht1 : x.tmod n < n := Int.tmod_lt_of_pos x hn
  have ht2 : -n < x.tmod n := Int.lt_tmod_of_pos x hn
  by_cases h : x.tmod n < 0
  · go_enter Try.func22, Try.ntmps22
    go_wp2
    go_ret
    exact ⟨⟨(x.tmod n + n).toNat, by omega, ret_i64 (by omega)⟩, rfl⟩
  · go_enter Try.func22, Try.ntmps22
    go_wp2
    go_ret
    exact ⟨⟨(x.tmod n).toNat, by omega, ret_i64 (by omega)⟩, rfl⟩

/-- Where each number ends. -/
def ends (l : List Int) (k : Nat) : List Int := (List.range k).map fun j => ((Vm.cat (l.take (j + 1))).length : Int)

theorem ends_succ (l : List Int) (k : Nat) : ends l (k + 1) = ends l k ++ [((Vm.cat (l.take (k + 1))).length : Int)] := by
  simp [ends, List.range_succ]
theorem ends_len (l : List Int) (k : Nat) : (ends l k).length = k := by simp [ends]
theorem ends_at (l : List Int) (k j : Nat) (h : j < k) : (ends l k).getD j 0 = ((Vm.cat (l.take (j + 1))).length : Int) := by
  simp [ends, h]

theorem wf_i64 {z : Int} (h0 : -9223372036854775808 ≤ z) (h1 : z < 9223372036854775808) : (Lit.int .i64 z).wf = true := by
  simp [Lit.wf, IntKind.min, IntKind.max, IntKind.signed, IntKind.bits]; omega

theorem u64_all {w : World} {v : Value} {l : List Int} (h : Is .u64 w v l) : ∀ x ∈ l, 0 ≤ x ∧ x < 18446744073709551616 := fun x hx => by
  have := bounds_u64 (h.1 x hx)
  omega

theorem Is.sub {k : IntKind} {w : World} {b f n cap : Nat} {zs : List Int} (h : Is k w (.slice (some ⟨b, f, none⟩) n cap) zs) (a p : Nat) (hap : a ≤ p) (hp : p ≤ n) : Is k w (.slice (some ⟨b, f + a, none⟩) (p - a) (cap - a)) ((zs.drop a).take (p - a)) := by
  refine ⟨fun z hz => h.1 z (List.mem_of_mem_drop (List.mem_of_mem_take hz)), ?_⟩
  rcases h.2 with ⟨hv, _⟩ | ⟨ad', cap', hv, h1, h2, hc⟩
  · cases hv
  · simp only [Value.slice.injEq, Option.some.injEq] at hv
    obtain ⟨rfl, rfl, rfl⟩ := hv
    have hl : ((zs.drop a).take (p - a)).length = p - a := by rw [List.length_take, List.length_drop]; omega
    refine .inr ⟨⟨b, f + a, none⟩, cap - a, by rw [hl], by omega, by omega, fun i hi => ?_⟩
    rw [hl] at hi
    have := hc (a + i) (by omega)
    rw [add_at] at this ⊢
    rw [Nat.add_assoc, this]
    simp [List.getD, hi]

theorem apart_blocks {u v : Value} {s1 s2 s3 : Nat} (h1 : ∀ b, u.ownBlock = some b → s2 ≤ b ∧ b < s3) (h2 : ∀ b, v.ownBlock = some b → s1 ≤ b ∧ b < s2) : u.ownBlock = none ∨ u.ownBlock ≠ v.ownBlock := by
  cases hu : u.ownBlock with
  | none => exact .inl rfl
  | some b =>
    refine .inr fun e => ?_
    have g1 := h1 b hu
    have g2 := h2 b e.symm
    omega

set_option maxRecDepth 100000 in
set_option maxHeartbeats 1000000 in
theorem varintRow_walk (vl : Value) (l : List Int) (cut : Int) (w : World) (hl : Is .u64 w vl l) (hb : l.length * 8 ≤ 140737488351232) (hc : (Lit.int .i64 cut).wf = true) :
    Calls Try.prog 7 #[vl, .int .i64 cut] w fun e w' => e = .returned (.bool true) ∧ Below w.heap.size w w' := by
  have hc := bounds_i64 hc
  by_cases hbig : 200 < l.length
  · obtain ⟨ao, cap, rfl, _, _⟩ := hl.shape
    go_enter Try.func7, Try.ntmps7
    go_wp2_with fail
    refine (lives_yes _).mono ?_
    rintro E w1 ⟨rfl, bel1⟩
    go_wp2
    go_ret
    exact ⟨rfl, bel1⟩
  · by_cases hz : 0 < l.length
    · have hall := u64_all hl
      have hcl := Vm.cat_len l (fun x hx => (hall x hx).2)
      have HALL := hide hall
      obtain ⟨b1, f1, c1, rfl, _, _, hB1, hc1⟩ := hl.full hz
      have HC := hide hc1
      clear hc1 hall hl
      generalize hn : l.length = n at *
      have HN := hide hn
      clear hn
      go_enter Try.func7, Try.ntmps7
      go_wp2_with fail
      refine (lives_yes _).mono ?_
      rintro E w1 ⟨rfl, bel1⟩
      go_wp2
      go_loopw [5, 6, 7] (fun vb ve ii wr => ∃ (k : Nat), k ≤ n ∧ ii = .int .i64 k ∧ Own .u8 5 w.heap.size wr vb (Vm.cat (l.take k)) ∧ Own .i64 3 w.heap.size wr ve (ends l k) ∧ Below w.heap.size w wr) (fun _ _ ii _ => n - (intOf ii).toNat)
      case atStart => exact ⟨0, by omega, rfl, by simpa [Vm.cat] using Own.nil _ _ _ _, by simpa [ends] using Own.nil _ _ _ _, bel1⟩
      case round =>
        clear bel1
        obtain ⟨k, hk, rfl, ob, oe, bel⟩ := hrel
        by_cases hlt : k < n
        · have hk2 : k < l.length := by rw [HN.out]; exact hlt
          have g1 := (bel.cell (p := ⟨b1, f1 + k, none⟩) hB1).trans (HC.out k hlt)
          have hx := HALL.out (l.getD k 0) (by simp [List.getD, hk2])
          have hcat : Vm.cat (l.take (k + 1)) = Vm.cat (l.take k) ++ Vm.enc (l.getD k 0).toNat := by rw [Vm.cat_take l k hk2]; simp [List.getD, hk2]
          have hm := Vm.cat_mono l k
          have hm1 := Vm.cat_mono l (k + 1)
          generalize l.getD k 0 = x at *
          have hlt' : (k : Int) < n := by omega
          go_wp2_with fail
          refine (app_any _ _ x _ ob.is (by omega) hx.1 hx.2).mono ?_
          rintro E w2 ⟨v2, rfl, ob2, bel2⟩
          rw [← hcat] at ob2
          have oe2 := oe.below bel2
          have hne : v2.ownBlock = none ∨ v2.ownBlock ≠ u6.ownBlock := apart_blocks ob2.2.lt oe.2.lt
          have hs2 := bel2.size
          have bel3 := bel.trans (bel2.mono bel.size)
          have hsz := bel.size
          obtain ⟨a2, c2, hv2, _, _⟩ := ob2.is.shape
          have hel := ends_succ l k
          have hll := ends_len l k
          have HEL := hide hel
          clear ob oe bel2 hcat bel hel
          subst hv2
          generalize (Vm.cat (l.take (k + 1))).length = N at *
          have W := wf_i64 (z := (N : Int)) (by omega) (by omega)
          generalize hel0 : ends l k = es at *
          clear hel0
          go_wp2_with (at_builtin; refine wpList_append_is rfl (.tmp 33) (.tmp 36) 40 rfl .i64 3 w.heap.size 8 Try.underlying40 Try.info3 (by decide) _ es rfl (oe2.below ((Below.refl _ _).alloc (Nat.le_refl _) _)) _ [(N : Int)] rfl (Is.one .i64 _ _ 3 W) (by simp; omega) (by simp; omega) ?_)
          intro v3 w3 oe3 bel4 hg3
          have ob3 := (ob2.below ((Below.refl _ _).alloc (Nat.le_refl _) _)).kept hg3 hne
          have ob4 := ob3.rebase (base' := w.heap.size) hsz
          have bel5 := (bel3.alloc (by omega) _).trans bel4
          clear ob2 ob3 oe2 bel3 bel4 hg3
          go_wp2
          go_roundw
          case rel => exact ⟨k + 1, by omega, by go_num, ob4, by rw [HEL.out]; exact oe3, bel5⟩
          case measure => simp [intOf]; omega
        · have hkn : k = n := by omega
          subst hkn
          rw [List.take_of_length_le (by have := HN.out; omega)] at ob
          have hob : 0 < (Vm.cat l).length := by
            have := Vm.cat_take_len l 0 (by have := HN.out; omega)
            have := Vm.cat_mono l (0 + 1)
            have := Vm.sz_pos (l[0]'(by have := HN.out; omega)).toNat
            omega
          obtain ⟨b5, f5, c5, hv5, hc5, hm5, hB5, he5⟩ := ob.is.full hob
          obtain ⟨b6, f6, c6, hv6, hc6, hm6, hB6, he6⟩ := oe.is.full (by rw [ends_len]; exact hz)
          have isb := ob.is
          rw [ends_len] at hv6 hc6 he6
          subst hv5 hv6
          have H6 := hide he6
          clear ob oe he5 he6 hlt hk
          go_wp2
          go_loop [8, 9] (fun ss ii => ∃ (j : Nat), j ≤ k ∧ ii = .int .i64 j ∧ ss = .int .i64 (Vm.cat (l.take j)).length) (fun _ ii => k - (intOf ii).toNat)
          case atStart => exact ⟨0, by omega, rfl, by simp [Vm.cat]⟩
          case round =>
            obtain ⟨j, hj, rfl, rfl⟩ := hrel
            by_cases hlt : j < k
            · have hj2 : j < l.length := by rw [HN.out]; exact hlt
              have g1 := (bel.cell (p := ⟨b1, f1 + j, none⟩) hB1).trans (HC.out j hlt)
              have hx := HALL.out (l.getD j 0) (by simp [List.getD, hj2])
              have hcat : (Vm.cat (l.take (j + 1))).length = (Vm.cat (l.take j)).length + Vm.sz (l.getD j 0).toNat := by rw [Vm.cat_take_len l j hj2]; simp [List.getD, hj2]
              have hm := Vm.cat_mono l j
              have hsx := Vm.sz_le10 (x := (l.getD j 0).toNat) (by omega)
              generalize l.getD j 0 = x at *
              have HCAT := hide hcat
              clear hcat
              have hlt' : (j : Int) < k := by omega
              go_wp2_with fail
              refine (size_any x _ hx.1 hx.2).mono ?_
              rintro E w2 ⟨rfl, rfl⟩
              go_wp2
              go_round
              case rel => exact ⟨j + 1, by omega, by go_num, by rw [HCAT.out]; go_num⟩
              case measure => simp [intOf]; omega
            · have hjk : j = k := by omega
              subst hjk
              rw [List.take_of_length_le (by have := HN.out; omega)]
              generalize hNN : (Vm.cat l).length = N at *
              have HCL := hide hNN
              clear hNN
              go_wp2_with fail
              refine (pick_any cut _ _ (by omega) (by omega) (by omega) (by omega)).mono ?_
              rintro E w2 ⟨⟨p, hp, rfl⟩, rfl⟩
              clear hlt hj
              have HP : Hid ((p : Int) < N + 1) := hp
              have hp1 : p ≤ N := by omega
              clear hp
              go_wp2
              go_loop [11, 12] (fun aa ii => ∃ (i : Nat), i ≤ j ∧ ii = .int .i64 i ∧ aa = .int .i64 (Vm.cat (l.take i)).length ∧ (Vm.cat (l.take i)).length ≤ p) (fun _ ii => j - (intOf ii).toNat)
              case atStart => exact ⟨0, by omega, rfl, by simp [Vm.cat], by simp [Vm.cat]⟩
              case round =>
                obtain ⟨i, hi, rfl, rfl, hip⟩ := hrel
                by_cases hlt : i < j
                · have hi2 : i < l.length := by rw [HN.out]; exact hlt
                  have hlt' : (i : Int) < j := by omega
                  have g1 := (bel.cell (p := ⟨b1, f1 + i, none⟩) hB1).trans (HC.out i hlt)
                  have g2 := H6.out i hlt
                  rw [ends_at l j i hlt] at g2
                  have hx := HALL.out l[i] (List.getElem_mem _)
                  have ex : l.getD i 0 = l[i] := by simp [List.getD, hi2]
                  rw [ex] at g1
                  have hE := Vm.cat_take_len l i hi2
                  have hEm := Vm.cat_mono l (i + 1)
                  rw [HCL.out] at hEm
                  have hsx := Vm.sz_le10 (x := (l[i]).toNat) (by omega)
                  have hsx0 := Vm.sz_pos (l[i]).toNat
                  have RW := hide (Vm.cut_whole l i p hi2 hx.1 hx.2)
                  have RS := hide (Vm.cut_short l i p hi2)
                  have isc := isb.sub (Vm.cat (l.take i)).length p hip hp1
                  have hcs : (((Vm.cat l).drop (Vm.cat (l.take i)).length).take (p - (Vm.cat (l.take i)).length)).length ≤ p := by rw [List.length_take]; omega
                  clear ex
                  generalize l[i] = x at *
                  generalize hEE : (Vm.cat (l.take (i + 1))).length = E at *
                  have HEE := hide hEE
                  clear hEE
                  generalize (Vm.cat (l.take i)).length = A at *
                  generalize ((Vm.cat l).drop A).take (p - A) = cs at *
                  have hAc : A < c5 := by omega
                  by_cases hEp : E ≤ p
                  · have R := RW.out (by omega)
                    have hEp' : ¬ (p : Int) < (E : Int) := by omega
                    have q1 : ((0 : Int) != 0) = false := by simp
                    have q2 : (x != x) = false := by simp
                    have q3 : ((A : Int) + (Vm.sz x.toNat : Int) != (E : Int)) = false := by simp; omega
                    have HE := hide hE
                    clear hE RW RS
                    go_wp2_with fail
                    refine (read_any _ _ _ _ _ _ isc (by omega) R).mono ?_
                    rintro E2 w3 ⟨rfl, rfl⟩
                    go_wp2
                    go_round
                    case rel => exact ⟨i + 1, by omega, by go_num, by rw [HEE.out, HE.out]; go_num, by rw [HEE.out]; exact hEp⟩
                    case measure => simp [intOf]; omega
                  · have R := RS.out (by omega)
                    have hEp' : (p : Int) < (E : Int) := by omega
                    have q1 : ((0 : Int) == 0) = true := by simp
                    have q2 : ((5 : Int) == 5) = true := by simp
                    clear hE RW RS
                    go_wp2_with fail
                    refine (read_any _ _ _ _ _ _ isc (by omega) R).mono ?_
                    rintro E2 w3 ⟨rfl, rfl⟩
                    go_wp2
                    go_ret
                    exact ⟨rfl, bel⟩
                · have hij : i = j := by omega
                  subst hij
                  have e1 : (Vm.cat (l.take i)).length = N := by rw [List.take_of_length_le (by have := HN.out; omega)]; exact HCL.out
                  rw [e1]
                  have q1 : ((N : Int) == (N : Int)) = true := by simp
                  clear e1
                  go_wp2
                  go_ret
                  exact ⟨rfl, bel⟩
    · have hx : l = [] := List.eq_nil_of_length_eq_zero (by omega)
      subst hx
      obtain ⟨a1, c1, rfl⟩ := hl.bare
      clear hl hb hz hbig
      go_enter Try.func7, Try.ntmps7
      go_wp2_with fail
      refine (lives_yes _).mono ?_
      rintro E w1 ⟨rfl, bel1⟩
      go_wp2_with fail
      refine wp_loop_rounds 1 ?_
      rw [rounds_succ]
      go_wp2_with fail
      refine wp_loop_rounds 1 ?_
      rw [rounds_succ]
      go_wp2_with fail
      refine (pick_any cut _ _ (by omega) (by omega) (by omega) (by omega)).mono ?_
      rintro E w2 ⟨⟨p, hp, rfl⟩, rfl⟩
      go_wp2_with fail
      refine wp_loop_rounds 1 ?_
      rw [rounds_succ]
      go_wp2_with fail
      go_ret
      exact ⟨rfl, bel1⟩

end Go.Proofs.Ytgffjdkcoijniaa
