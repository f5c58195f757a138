/- The contract of OverBytes: a list of the call's own is written over, its spare room too; nothing else is. -/
import Derived.Test.YtgffjdkcoijniaaBackWalk
namespace Go.Proofs.Ytgffjdkcoijniaa
open Go.RowKit
set_option linter.unusedVariables false

theorem grown_trans {w w1 w2 : World} {row : Option Nat} (h : w.grownBy w1 row) (k : w1.grownBy w2 row) : w.grownBy w2 row :=
  ⟨k.os.trans h.os, k.tape.trans h.tape, k.output.trans h.output, Nat.le_trans h.size k.size, fun i hi hne => (k.block i (Nat.lt_of_lt_of_le hi h.size) hne).trans (h.block i hi hne)⟩

/-- Go's complement of a byte, as the walk spells it. -/
def cpl (z : Int) : Int := bits BinOp.xor IntKind.u8 (if IntKind.u8.signed = true then -1 else IntKind.u8.max) z

theorem cpl_wf (z : Int) : (Lit.int .u8 (cpl z)).wf = true := wf_bits _ _ _ _

theorem mid_at (zs : List Int) (k : Nat) (h : k < zs.length) : (((zs.map cpl).take k ++ zs.drop k).map (Value.int .u8))[k]? = some (.int .u8 zs[k]) := by
  have hl : ((zs.map cpl).take k).length = k := by rw [List.length_take, List.length_map]; omega
  rw [List.getElem?_map, List.getElem?_append_right (by omega), hl, Nat.sub_self, List.drop_eq_getElem_cons h]
  rfl

theorem mid_set (zs : List Int) (k : Nat) (h : k < zs.length) : (((zs.map cpl).take k ++ zs.drop k).map (Value.int .u8)).set k (.int .u8 (cpl zs[k])) = ((zs.map cpl).take (k + 1) ++ zs.drop (k + 1)).map (Value.int .u8) := by
  have hl : ((zs.map cpl).take k).length = k := by rw [List.length_take, List.length_map]; omega
  have hl2 : (((zs.map cpl).take k).map (Value.int .u8)).length = k := by rw [List.length_map, hl]
  rw [List.drop_eq_getElem_cons h, List.map_append, List.set_append_right _ _ (by omega), hl2, Nat.sub_self, List.take_succ_eq_append_getElem (by simpa using h), List.map_cons, List.set_cons_zero]
  simp only [List.map_append, List.map_cons, List.append_assoc, List.cons_append, List.nil_append, List.getElem_map]

/-- The length in a slot: a measure. -/
def lenOf : Value → Nat | .slice _ m _ => m | _ => 0

theorem own_front {w : World} {base e g n cap : Nat} {xs : List Value} (h : w.ownsRow base e 1 (.slice (some ⟨g, 0, none⟩) n cap) n xs) (m : Nat) (hm : m ≤ n) : w.ownsRow base e 1 (.slice (some ⟨g, 0, none⟩) m cap) m (xs.take m) := by
  obtain ⟨h1, h2⟩ := h
  refine ⟨by rw [List.length_take]; omega, ?_⟩
  rcases h2 with ⟨h', _⟩ | ⟨g', cap', cur, h', hb, hg, hnc, hcm, hcs, htake⟩
  · simp at h'
  · simp only [Value.slice.injEq, Option.some.injEq, Addr.mk.injEq, and_true, true_and] at h'
    obtain ⟨rfl, rfl⟩ := h'
    refine .inr ⟨g, cap, cur, rfl, hb, hg, by omega, hcm, hcs, ?_⟩
    rw [← htake, List.take_take]
    congr 1
    omega

set_option maxHeartbeats 400000 in
theorem over_full (g n cap base : Nat) (zs : List Int) (w : World) (hn : zs.length = n) (hwf : ∀ z ∈ zs, (Lit.int .u8 z).wf = true) (hown : w.ownsRow base 5 1 (.slice (some ⟨g, 0, none⟩) n cap) n (zs.map (Value.int .u8))) (hcm : cap ≤ maxLen) (hnc : n ≤ cap) :
    Calls Try.prog 23 #[.slice (some ⟨g, 0, none⟩) n cap] w fun e w' => e = .returned (.tuple #[]) ∧ w'.ownsRow base 5 1 (.slice (some ⟨g, 0, none⟩) n cap) n ((zs.map cpl).map (Value.int .u8)) ∧ w.grownBy w' (some g) := by
  unfold maxLen at hcm
  obtain ⟨i0, hi, hz0, hz1, hz2⟩ := info_parts Try.info5
  go_enter Try.func23, Try.ntmps23
  go_wp2
  go_loopw [3] (fun i wr => ∃ (k : Nat), k ≤ n ∧ i = .int .i64 k ∧ wr.ownsRow base 5 1 (.slice (some ⟨g, 0, none⟩) n cap) n (((zs.map cpl).take k ++ zs.drop k).map (Value.int .u8)) ∧ w.grownBy wr (some g)) (fun i _ => n - (intOf i).toNat)
  case atStart => exact ⟨0, by omega, rfl, by simpa using hown, World.grownBy.refl _ _⟩
  case round =>
    obtain ⟨k, hk, rfl, ho, hg⟩ := hrel
    by_cases hlt : k < n
    · have hz : k < zs.length := by omega
      have g1 : wr.cell? ⟨g, k, none⟩ = some (.int .u8 zs[k]) := by rw [ho.cellAt k (by omega)]; exact mid_at zs k hz
      have g2 := ho.frozenAt k
      have hlt' : (k : Int) < n := by omega
      have hs := ho.stored k (.int .u8 (cpl zs[k]))
      rw [mid_set zs k hz] at hs
      have HS := hide hs
      have HG := hide hg
      clear hs ho hg
      go_wp2
      go_roundw
      case rel => exact ⟨k + 1, by omega, by go_num, HS.out.1, grown_trans HG.out HS.out.2⟩
      case measure => simp [intOf]; omega
    · have hkn : k = n := by omega
      have ho2 : wr.ownsRow base 5 1 (.slice (some ⟨g, 0, none⟩) n cap) n ((zs.map cpl).map (Value.int .u8)) := by
        have h1 : ((zs.map cpl).take k ++ zs.drop k) = zs.map cpl := by
          rw [List.take_of_length_le (by simp; omega), List.drop_eq_nil_of_le (by omega), List.append_nil]
        rw [h1] at ho
        exact ho
      obtain ⟨cs, hcs⟩ : ∃ cs, cs = (zs.map cpl).map (Value.int .u8) := ⟨_, rfl⟩
      rw [← hcs] at ho2
      have HCS := hide hcs
      clear ho hkn hcs
      go_wp2
      go_loopw [0] (fun l wr => ∃ (m : Nat) (ys : List Value), n ≤ m ∧ m ≤ cap ∧ l = .slice (some ⟨g, 0, none⟩) m cap ∧ wr.ownsRow base 5 1 (.slice (some ⟨g, 0, none⟩) m cap) m (cs ++ ys) ∧ w.grownBy wr (some g)) (fun l _ => cap - lenOf l)
      case atStart => exact ⟨n, [], Nat.le_refl _, hnc, rfl, by simpa using ho2, hg⟩
      case round =>
        obtain ⟨m, ys, hm1, hm2, rfl, ho3, hg3⟩ := hrel
        clear ho2 hg
        by_cases hlt2 : m < cap
        · have hlt3 : (m : Int) < cap := by omega
          go_wp2_with (at_builtin; refine wpList_append_fits _ rfl (.tmp 24) (.tmp 25) 24 rfl base 5 i0 1 Try.underlying24 hi hz1 g m cap _ rfl (ho3.alloc _) ⟨wr.heap.size, 0, none⟩ 1 1 [.int .u8 99] rfl rfl (cell_one_new _ _ _) (by intro u hu; simp at hu; subst hu; rfl) (by omega) ?_)
          intro w2 ho4 hg4
          have hg5 := grown_trans hg3 (grown_trans (World.grownBy_alloc _ _ _) hg4)
          clear ho3 hg3 hg4
          go_wp2
          go_roundw
          case rel => exact ⟨m + 1, ys ++ [.int .u8 99], by omega, by omega, rfl, ho4, hg5⟩
          case measure => simp [lenOf]; omega
        · go_wp2
          go_end0
          refine ⟨rfl, ?_, hg3⟩
          have := own_front ho3 n hm1
          rw [List.take_left' (by rw [HCS.out]; simpa using hn), HCS.out] at this
          exact this

theorem over_any (v : Value) (zs : List Int) (base : Nat) (w : World) (h : Own .u8 5 base w v zs) :
    Calls Try.prog 23 #[v] w fun e w' => e = .returned (.tuple #[]) ∧ Own .u8 5 base w' v (zs.map cpl) ∧ w.grownBy w' v.ownBlock := by
  have hwf : ∀ z ∈ zs.map cpl, (Lit.int .u8 z).wf = true := by
    intro z hz
    obtain ⟨y, _, rfl⟩ := List.mem_map.1 hz
    exact cpl_wf y
  rcases h.2.2 with ⟨hv, hn⟩ | ⟨g, cap, cur, hv, h1, hh, hc, hm, hs, ht⟩
  · have hz : zs = [] := List.eq_nil_of_length_eq_zero hn
    subst hz hv
    go_enter Try.func23, Try.ntmps23
    go_wp2
    refine wp_loop_rounds 1 ?_
    rw [rounds_succ]
    go_wp2
    refine wp_loop_rounds 1 ?_
    rw [rounds_succ]
    go_wp2
    go_end0
    exact ⟨rfl, Own.nil _ _ _ _, World.grownBy.refl _ _⟩
  · subst hv
    refine (over_full g zs.length cap base zs w rfl h.1 h.2 hm hc).mono ?_
    rintro e w' ⟨rfl, ho, hg⟩
    exact ⟨rfl, ⟨hwf, by rw [List.length_map]; exact ho⟩, hg⟩

end Go.Proofs.Ytgffjdkcoijniaa
