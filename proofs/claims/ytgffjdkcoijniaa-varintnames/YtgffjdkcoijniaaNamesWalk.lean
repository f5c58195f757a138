/- The walk of the law VarintNames: it returns true. -/
import Derived.Test.YtgffjdkcoijniaaBackWalk
import Derived.Deep.RegionWith
namespace Go.Proofs.Ytgffjdkcoijniaa
open Go.RowKit
set_option linter.unusedVariables false

/-- The four numbers, and where their bytes lie. -/
def nums (k : Nat) : Int := if k = 0 then 0 else if k = 1 then 127 else if k = 2 then 128 else 300
def told (B k : Nat) : Value := if k = 0 then .slice (some ⟨B + 1, 0, none⟩) 1 1 else if k = 1 then .slice (some ⟨B + 1 + 1, 0, none⟩) 1 1 else if k = 2 then .slice (some ⟨B + 1 + 1 + 1, 0, none⟩) 2 2 else .slice (some ⟨B + 1 + 1 + 1 + 1, 0, none⟩) 2 2

theorem four {k : Nat} (h : k < 4) : k = 0 ∨ k = 1 ∨ k = 2 ∨ k = 3 := by omega

theorem five {k : Nat} (h : k < 5) : k = 0 ∨ k = 1 ∨ k = 2 ∨ k = 3 ∨ k = 4 := by omega

/-- A new block of cells. -/
theorem alloc_step (w : World) (cs : Array Value) (e : TypeId) : ∃ W, w.alloc (.cells cs e) = W ∧ W.heap.size = w.heap.size + 1 ∧ Below w.heap.size w W ∧ ∀ j u, cs[j]? = some u → W.cell? ⟨w.heap.size, j, none⟩ = some u := by
  refine ⟨_, rfl, by simp, (Below.refl _ _).alloc (Nat.le_refl _) _, fun j u h => ?_⟩
  rw [cell_of_row _ w.heap.size j cs e (0, 0) (heap_alloc_new w _)]
  simpa using h

/-- The same, of bytes. -/
theorem bytes_step (w : World) (cs : Array Value) (n : Nat) (zs : List Int) (hn : zs.length = n) (h : cs.toList = zs.map (Value.int .u8)) (hm : n ≤ maxLen) (hw : ∀ z ∈ zs, (Lit.int .u8 z).wf = true) :
    ∃ W, w.alloc (.cells cs 5) = W ∧ W.heap.size = w.heap.size + 1 ∧ Below w.heap.size w W ∧ Own .u8 5 w.heap.size W (.slice (some ⟨w.heap.size, 0, none⟩) n n) zs := by
  subst hn
  refine ⟨_, rfl, by simp, (Below.refl _ _).alloc (Nat.le_refl _) _, hw, ?_⟩
  have ho := World.ownsRow_lit (base := w.heap.size) (e := 5) (size := 1) w cs zs.length (Nat.le_refl _) hm (by have := congrArg List.length h; simpa using this)
  rw [h] at ho
  exact ho

theorem enc0 : Vm.enc 0 = [0] := by simp [Vm.enc]
theorem enc127 : Vm.enc 127 = [127] := by simp [Vm.enc]
theorem enc128 : Vm.enc 128 = [128, 1] := by simp [Vm.enc]
theorem encmax : Vm.enc 18446744073709551615 = [255, 255, 255, 255, 255, 255, 255, 255, 255, 1] := by simp [Vm.enc]
theorem resmax : Vm.Res [255, 255, 255, 255, 255, 255, 255, 255, 255, 1] 18446744073709551615 10 0 := .inl ⟨18446744073709551615, by omega, by rw [encmax]; exact List.prefix_refl _, rfl, by rw [szmax]; rfl, rfl⟩
theorem res300' : Vm.Res [172, 2] 300 2 0 := .inl ⟨300, by omega, by rw [enc300]; exact List.prefix_refl _, rfl, by simp [Vm.sz, enc300], rfl⟩
theorem bad0 : Vm.Res [] 0 0 5 := .inr ⟨fun u _ => Vm.pre_nil u, rfl, rfl, rfl⟩
theorem bad1 : Vm.Res [128] 0 0 5 := by
  refine .inr ⟨fun u _ hu => ?_, rfl, rfl, rfl⟩
  rw [Vm.pre_hi (by omega) (by omega)] at hu
  obtain ⟨y, _, _, h⟩ := hu
  exact Vm.pre_nil y h
theorem bad2 : Vm.Res [128, 0] 0 0 5 := by
  refine .inr ⟨fun u _ hu => ?_, rfl, rfl, rfl⟩
  rw [Vm.pre_hi (by omega) (by omega)] at hu
  obtain ⟨y, h1, _, h⟩ := hu
  rw [Vm.pre_lo (by omega)] at h
  omega
theorem inv255 (c : Int) : ∀ n, n ≤ 9 → ∃ acc, Vm.Inv [255, 255, 255, 255, 255, 255, 255, 255, 255, c] n acc
  | 0, _ => ⟨0, Vm.inv_start _⟩
  | n + 1, h => by
    obtain ⟨acc, ha⟩ := inv255 c n (by omega)
    refine ⟨_, Vm.inv_step ha (c := 255) (by simp; omega) ?_ (by omega) (by omega)⟩
    have : n = 0 ∨ n = 1 ∨ n = 2 ∨ n = 3 ∨ n = 4 ∨ n = 5 ∨ n = 6 ∨ n = 7 ∨ n = 8 := by omega
    rcases this with rfl | rfl | rfl | rfl | rfl | rfl | rfl | rfl | rfl <;> rfl
theorem bad3 (c : Int) (h1 : 1 < c) (h2 : c < 256) : Vm.Res [255, 255, 255, 255, 255, 255, 255, 255, 255, c] 0 0 5 := by
  obtain ⟨acc, ha⟩ := inv255 c 9 (by omega)
  exact .inr ⟨Vm.inv_wide ha (c := c) (by simp) rfl h1 h2, rfl, rfl, rfl⟩

theorem Is.form {k : IntKind} {w : World} {v : Value} {zs : List Int} (h : Is k w v zs) : ∃ ao n c, v = .slice ao n c := by
  obtain ⟨ao, c, hv, _, _⟩ := h.shape
  exact ⟨ao, _, c, hv⟩

set_option maxRecDepth 100000 in
set_option maxHeartbeats 1000000 in
theorem varintNames_walk (w : World) :
    Calls Try.prog 3 #[] w fun e w' => e = .returned (.bool true) ∧ Below w.heap.size w w' := by
  obtain ⟨W1, e1, s1, b1, c1⟩ := alloc_step w #[.int .u64 0, .int .u64 127, .int .u64 128, .int .u64 300] 22
  obtain ⟨W2, e2, s2, b2, o2⟩ := bytes_step W1 #[.int .u8 0] 1 [0] rfl rfl (by simp [maxLen]) (bytes_wf (by decide))
  obtain ⟨W3, e3, s3, b3, o3⟩ := bytes_step W2 #[.int .u8 127] 1 [127] rfl rfl (by simp [maxLen]) (bytes_wf (by decide))
  obtain ⟨W4, e4, s4, b4, o4⟩ := bytes_step W3 #[.int .u8 128, .int .u8 1] 2 [128, 1] rfl rfl (by simp [maxLen]) (bytes_wf (by decide))
  obtain ⟨W5, e5, s5, b5, o5⟩ := bytes_step W4 #[.int .u8 172, .int .u8 2] 2 [172, 2] rfl rfl (by simp [maxLen]) (bytes_wf (by decide))
  rw [s1] at s2 b2 o2
  rw [s2] at s3 b3 o3
  rw [s3] at s4 b4 o4
  rw [s4] at s5 b5 o5
  obtain ⟨W6, e6, s6, b6, c6⟩ := alloc_step W5 #[told w.heap.size 0, told w.heap.size 1, told w.heap.size 2, told w.heap.size 3] 24
  rw [s5] at s6 b6 c6
  have fN : ∀ k, k < 4 → W6.cell? ⟨w.heap.size, k, none⟩ = some (.int .u64 (nums k)) := by
    intro k hk
    rw [b6.cell (by simp; omega), b5.cell (by simp; omega), b4.cell (by simp; omega), b3.cell (by simp; omega), b2.cell (by simp)]
    refine c1 k _ ?_
    rcases four hk with rfl | rfl | rfl | rfl <;> rfl
  have fT : ∀ k, k < 4 → W6.cell? ⟨w.heap.size + 1 + 1 + 1 + 1 + 1, k, none⟩ = some (told w.heap.size k) := by
    intro k hk
    refine c6 k _ ?_
    rcases four hk with rfl | rfl | rfl | rfl <;> rfl
  have i5 := (o5.is.below (by rw [s5]; exact b6))
  have i4 := ((o4.is.below (by rw [s4]; exact b5)).below (by rw [s5]; exact b6))
  have i3 := (((o3.is.below (by rw [s3]; exact b4)).below (by rw [s4]; exact b5)).below (by rw [s5]; exact b6))
  have i2 := ((((o2.is.below (by rw [s2]; exact b3)).below (by rw [s3]; exact b4)).below (by rw [s4]; exact b5)).below (by rw [s5]; exact b6))
  have fI : ∀ k, k < 4 → Is .u8 W6 (told w.heap.size k) (Vm.enc (nums k).toNat) := by
    intro k hk
    rcases four hk with rfl | rfl | rfl | rfl
    · rw [show (nums 0).toNat = 0 from rfl, enc0]; exact i2
    · rw [show (nums 1).toNat = 127 from rfl, enc127]; exact i3
    · rw [show (nums 2).toNat = 128 from rfl, enc128]; exact i4
    · rw [show (nums 3).toNat = 300 from rfl, enc300]; exact i5
  have fB : Below w.heap.size w W6 := ((((b1.trans (b2.mono (by omega))).trans (b3.mono (by omega))).trans (b4.mono (by omega))).trans (b5.mono (by omega))).trans (b6.mono (by omega))
  have e6' : W5.alloc (.cells #[.slice (some ⟨w.heap.size + 1, 0, none⟩) 1 1, .slice (some ⟨w.heap.size + 1 + 1, 0, none⟩) 1 1, .slice (some ⟨w.heap.size + 1 + 1 + 1, 0, none⟩) 2 2, .slice (some ⟨w.heap.size + 1 + 1 + 1 + 1, 0, none⟩) 2 2] 24) = W6 := e6
  have FN := hide fN
  have FT := hide fT
  have FI := hide fI
  clear fN fT fI e6 i2 i3 i4 i5 o2 o3 o4 o5 c1 c6 b1 b2 b3 b4 b5 b6
  go_enter Try.func3, Try.ntmps3
  go_wp2_with fail
  clear e1 e2 e3 e4 e5 e6' s1 s2 s3 s4 s5
  go_loopw [3] (fun ii wr => ∃ (k : Nat), k ≤ 4 ∧ ii = .int .i64 k ∧ Below W6.heap.size W6 wr) (fun ii _ => 4 - (intOf ii).toNat)
  case atStart => exact ⟨0, by omega, rfl, Below.refl _ _⟩
  case round =>
    obtain ⟨k, hk, rfl, bel⟩ := hrel
    by_cases hlt : k < 4
    · have hlt' : (k : Int) < 4 := by omega
      have g1 := (bel.cell (p := ⟨w.heap.size, k, none⟩) (by simp; omega)).trans (FN.out k hlt)
      have g2 := (bel.cell (p := ⟨w.heap.size + 1 + 1 + 1 + 1 + 1, k, none⟩) (by simp; omega)).trans (FT.out k hlt)
      have is1 := (FI.out k hlt).below bel
      have hx : 0 ≤ nums k ∧ nums k < 18446744073709551616 := by unfold nums; split <;> (try split) <;> (try split) <;> omega
      have hsx := Vm.sz_le10 (x := (nums k).toNat) (by omega)
      generalize nums k = x at *
      generalize told w.heap.size k = u at *
      have hszr := bel.size
      go_wp2_with fail
      go_region_with ((first | (go_at_call 9; refine (app_any _ [] x _ (Is.nil _ _) (by simp) hx.1 hx.2).mono ?_; rintro E w2 ⟨v2, rfl, own2, bel2'⟩; have bel2 : Below wr.heap.size wr w2 := ((Below.refl _ _).drew).trans bel2'; have g3 := (bel2.cell (p := ⟨w.heap.size + 1 + 1 + 1 + 1 + 1, k, none⟩) (by simp; omega)).trans g2) | (go_at_call 8; refine (same_yes _ _ _ _ _ own2.is (is1.below bel2) (by unfold Vm.sz at hsx; simp; omega) (List.nil_append _)).mono ?_; rintro E w3 ⟨rfl, bel3⟩; have belT : Below W6.heap.size W6 w3 := (bel.trans (bel2.mono bel.size)).trans (bel3.mono (Nat.le_trans bel.size bel2.size)))))
      all_goals
        go_wp2
        go_roundw
        case rel => exact ⟨k + 1, by omega, by go_num, by assumption⟩
        case measure => simp [intOf]; omega
    · have belW := fB.trans (bel.mono fB.size)
      have hsW := belW.size
      have hge : ¬ (k : Int) < 4 := by omega
      clear FN FT FI fB bel s6 hk hlt
      obtain ⟨V1, e1, s1, b1, o1⟩ := bytes_step wr #[.int .u8 255, .int .u8 255, .int .u8 255, .int .u8 255, .int .u8 255, .int .u8 255, .int .u8 255, .int .u8 255, .int .u8 255] 9 [255, 255, 255, 255, 255, 255, 255, 255, 255] rfl rfl (by simp [maxLen]) (bytes_wf (by decide))
      obtain ⟨V2, e2, s2, b2, o2⟩ := bytes_step V1 #[.int .u8 128] 1 [128] rfl rfl (by simp [maxLen]) (bytes_wf (by decide))
      obtain ⟨V3, e3, s3, b3, o3⟩ := bytes_step V2 #[.int .u8 128, .int .u8 0] 2 [128, 0] rfl rfl (by simp [maxLen]) (bytes_wf (by decide))
      have o1 := o1.below b2
      have o1 := o1.below b3
      have o2 := o2.below b3
      have b123 : Below wr.heap.size wr V3 := (b1.trans (b2.mono (by omega))).trans (b3.mono (by omega))
      rw [s1] at s2 o2
      rw [s2] at s3 o3
      have hs3 : wr.heap.size ≤ V3.heap.size := b123.size
      clear b1 b2 b3
      go_wp2_with fail
      refine (copy_any _ _ _ o1.is (by simp)).mono ?_
      rintro E V4 ⟨x1, rfl, ox1, b4⟩
      clear e1 e2 e3 s1 s2 s3
      have W255 := wf_u8 (z := 255) (by omega) (by omega)
      go_wp2_with (at_builtin; refine wpList_append_is rfl (.tmp 44) (.tmp 45) 24 rfl .u8 5 V3.heap.size 1 Try.underlying24 Try.info5 (by decide) _ _ rfl (ox1.below ((Below.refl _ _).alloc (Nat.le_refl _) _)) _ [255] rfl (Is.one .u8 _ _ 5 W255) (by simp) (by have := b4.size; simp; omega) ?_)
      intro y1 V5 oy1 b5 _
      have bA : Below V3.heap.size V3 V5 := (b4.alloc b4.size _).trans b5
      have o1 := o1.below bA
      have o2 := o2.below bA
      have o3 := o3.below bA
      have b5' := b123.trans (bA.mono b123.size)
      have hs5 := bA.size
      clear ox1 b4 b5 bA b123
      go_wp2_with fail
      refine (copy_any _ _ _ o1.is (by simp)).mono ?_
      rintro E V6 ⟨x2, rfl, ox2, b6⟩
      have W2 := wf_u8 (z := 2) (by omega) (by omega)
      go_wp2_with (at_builtin; refine wpList_append_is rfl (.tmp 48) (.tmp 49) 24 rfl .u8 5 V5.heap.size 1 Try.underlying24 Try.info5 (by decide) _ _ rfl (ox2.below ((Below.refl _ _).alloc (Nat.le_refl _) _)) _ [2] rfl (Is.one .u8 _ _ 5 W2) (by simp) (by have := b6.size; simp; omega) ?_)
      intro y2 V7 oy2 b7 _
      have bB : Below V5.heap.size V5 V7 := (b6.alloc b6.size _).trans b7
      have o1 := o1.below bB
      have o2 := o2.below bB
      have o3 := o3.below bB
      have oy1 := oy1.below bB
      have b7' := b5'.trans (bB.mono b5'.size)
      clear ox2 b6 b7 bB b5'
      obtain ⟨a1, n1, d1, h1⟩ := oy1.is.form
      obtain ⟨a2, n2, d2, h2⟩ := oy2.is.form
      subst h1 h2
      obtain ⟨V8, e8, s8, b8, c8⟩ := alloc_step V7 #[.slice none 0 0, .slice (some ⟨wr.heap.size + 1, 0, none⟩) 1 1, .slice (some ⟨wr.heap.size + 1 + 1, 0, none⟩) 2 2, .slice a1 n1 d1, .slice a2 n2 d2] 24
      have fC : ∀ k, k < 5 → ∃ v zs, V8.cell? ⟨V7.heap.size, k, none⟩ = some v ∧ Is .u8 V8 v zs ∧ Vm.Res zs 0 0 5 ∧ zs.length ≤ 10 := by
        intro k hk
        rcases five hk with rfl | rfl | rfl | rfl | rfl
        · exact ⟨_, [], c8 0 _ rfl, Is.nil _ _, bad0, by simp⟩
        · exact ⟨_, _, c8 1 _ rfl, o2.is.below b8, bad1, by simp⟩
        · exact ⟨_, _, c8 2 _ rfl, o3.is.below b8, bad2, by simp⟩
        · exact ⟨_, _, c8 3 _ rfl, oy1.is.below b8, bad3 255 (by omega) (by omega), by simp⟩
        · exact ⟨_, _, c8 4 _ rfl, oy2.is.below b8, bad3 2 (by omega) (by omega), by simp⟩
      have FC := hide fC
      have o1 := o1.below b8
      have b8' := b7'.trans (b8.mono b7'.size)
      clear fC c8 o2 o3 oy1 oy2 b8 b7'
      go_wp2_with fail
      clear e8 s8
      go_loop [6] (fun ii => ∃ (j : Nat), j ≤ 5 ∧ ii = .int .i64 j) (fun ii => 5 - (intOf ii).toNat)
      case atStart => exact ⟨0, by omega, rfl⟩
      case round =>
        obtain ⟨j, hj, rfl⟩ := hrel
        by_cases hlt : j < 5
        · obtain ⟨v, zs, g1, is1, hR, hlz⟩ := FC.out j hlt
          have hlt' : (j : Int) < 5 := by omega
          have q1 : ((0 : Int) != 0) = false := by simp
          have q2 : ((5 : Int) != 5) = false := by simp
          go_wp2_with fail
          refine (read_any _ _ _ _ _ _ is1 (by omega) hR).mono ?_
          rintro E w3 ⟨rfl, rfl⟩
          go_wp2
          go_round
          case rel => exact ⟨j + 1, by omega, by go_num⟩
          case measure => simp [intOf]; omega
        · have hge2 : ¬ (j : Int) < 5 := by omega
          clear FC hlt
          obtain ⟨V9, e9, s9, b9, o9⟩ := bytes_step V8 #[.int .u8 172, .int .u8 2] 2 [172, 2] rfl rfl (by simp [maxLen]) (bytes_wf (by decide))
          go_wp2_with fail
          refine (small_any _ _ 299 0 0 5 _ o9.is (by simp) (by omega) (by omega) (.inr ⟨rfl, rfl, rfl, 300, 2, 0, res300', by omega⟩)).mono ?_
          rintro E V9' ⟨rfl, rfl⟩
          have o1 := o1.below b9
          have b9' := b8'.trans (b9.mono b8'.size)
          clear e9 s9 b9 b8' o9
          obtain ⟨V10, e10, s10, b10, o10⟩ := bytes_step V9 #[.int .u8 172, .int .u8 2] 2 [172, 2] rfl rfl (by simp [maxLen]) (bytes_wf (by decide))
          go_wp2_with fail
          refine (small_any _ _ 300 300 2 0 _ o10.is (by simp) (by omega) (by omega) (.inl ⟨res300', by omega, by omega, rfl⟩)).mono ?_
          rintro E V10' ⟨rfl, rfl⟩
          have o1 := o1.below b10
          have b10' := b9'.trans (b10.mono b9'.size)
          have hs10 := b10'.size
          clear e10 s10 b10 b9' o10
          have W1' := wf_u8 (z := 1) (by omega) (by omega)
          go_wp2_with (at_builtin; refine wpList_append_is rfl (.tmp 90) (.tmp 91) 24 rfl .u8 5 wr.heap.size 1 Try.underlying24 Try.info5 (by decide) _ _ rfl (o1.below ((Below.refl _ _).alloc (Nat.le_refl _) _)) _ [1] rfl (Is.one .u8 _ _ 5 W1') (by simp) (by simp; omega) ?_)
          intro y3 V11 oy3 b11 _
          have b12 := belW.trans (((b10'.alloc hs10 _).trans b11).mono hsW)
          clear o1 b10' b11
          go_wp2_with fail
          refine (read_any _ _ _ _ _ _ oy3.is (by simp) resmax).mono ?_
          rintro E V12 ⟨rfl, rfl⟩
          go_wp2_with fail
          refine (lives_yes _).mono ?_
          rintro E V13 ⟨rfl, b13⟩
          have q3 : ((18446744073709551615 : Int) == 18446744073709551615) = true := by decide
          go_wp2
          go_ret
          exact ⟨rfl, b12.trans (b13.mono b12.size)⟩

end Go.Proofs.Ytgffjdkcoijniaa
