/- The contract of the program's Decode. -/
import Derived.Test.YtlfgffldoiedlaaCc
namespace Go.Proofs.Ytlfgffldoiedlaa
open Go.RowKit
set_option linter.unusedVariables false

/-- A block of three cells, made and written. -/
theorem new_step (w : World) (t : TypeId) (x y z a b c : Value) : ∃ V, ((((w.alloc (.cells #[x, y, z] t)).setCell ⟨w.heap.size, 0, none⟩ a).setCell ⟨w.heap.size, 1, none⟩ b).setCell ⟨w.heap.size, 2, none⟩ c = V) ∧ w.alloc (.cells #[a, b, c] t) = V ∧ V.heap.size = w.heap.size + 1 ∧ Below w.heap.size w V ∧ V.heap[w.heap.size]? = some (.cells #[a, b, c] t (0, 0)) ∧
    V.cell? ⟨w.heap.size, 0, none⟩ = some a ∧ V.cell? ⟨w.heap.size, 1, none⟩ = some b ∧ V.cell? ⟨w.heap.size, 2, none⟩ = some c := by
  obtain ⟨V, h1, h2, h3, h4⟩ := blk_step w #[a, b, c] t
  refine ⟨V, ?_, h1, h2, h3, h4, blk_cell h4 0 rfl, blk_cell h4 1 rfl, blk_cell h4 2 rfl⟩
  rw [← h1]
  simp [go_sem]

set_option maxHeartbeats 1000000 in
theorem cdec_any (vb : Value) (bs : List Int) (w : World) (hb : Is .u8 w vb bs) (hl : bs.length ≤ 140737488355328) :
    Calls Try.prog 9 #[vb] w fun E w' => ∃ (e n g : Int) (v : Value) (l : List Bm.Ov), E = .returned (.tuple #[cmv e n v, .int .i64 g]) ∧ OwnO 58 w.heap.size w' v l ∧ Cm.CRes bs e n l g ∧ Below w.heap.size w w' := by
  unfold cmv
  obtain ⟨w1, hw1, sz1, bel1, hB⟩ := blk_step w #[.int .i64 0, .int .i64 0, .slice none 0 0] 24
  have hb1 := hb.below bel1
  obtain ⟨ao, cap, rfl, _, _⟩ := hb.shape
  have HB := hide hB
  clear hB
  go_enter Try.func9, Try.ntmps9
  go_wp2_with fail
  refine (cread_any _ bs _ hb1 hl).mono ?_
  rintro E w2 ⟨e, n, k, g, vl, l, rfl, ownl, hR, bel2⟩
  unfold cmv
  have sz2 := bel2.size
  have hB2 := (bel2.block w.heap.size (by omega)).trans HB.out
  have bel02 := bel1.trans (bel2.mono (by omega))
  obtain ⟨ah, ch, hvl, _, _⟩ := ownl.is.shape
  subst hvl
  obtain ⟨V, hV, hV2, szV, belV, bC, c0, c1, c2⟩ := new_step w2 24 (.int .i64 0) (.int .i64 0) (.slice none 0 0) (.int .i64 e) (.int .i64 n) (.slice ah l.length ch)
  have hB3 := (belV.block w.heap.size (by omega)).trans hB2
  have bel0V := bel02.trans (belV.mono (by omega))
  obtain ⟨Z, hZ, bZ, gZ, ⟨a0, a1, a2⟩, ⟨f0, f1, f2⟩, ⟨z0, z1, z2⟩⟩ := res_step hB3 (.int .i64 0) (.int .i64 0) (.slice none 0 0)
  have belZ := below_put bel0V gZ (Nat.le_refl _) (by omega)
  have H3 := hide hB3
  have HC := hide bC
  have ownV := ownl.below belV
  clear hB2 hB3 bC bZ gZ bel1 bel2 bel02 HB ownl hb1
  rcases hR with ⟨rfl, x, y, hx, hy, px, py, hc, hp, rfl, rfl, rfl⟩ | ⟨rfl, rfl, rfl, rfl, rfl, hno⟩
  · by_cases hk : Vm.sz x + Vm.sz y + (Bm.encB l).length = bs.length
    · have HK := hide hk
      rw [hk]
      have hkk : ((bs.length : Int) != (bs.length : Int)) = false := by simp
      have hfit := (small_of hc).fit
      have hl8 := (Bm.chkL_zero hc).2.1
      have P : Hid (Vm.enc x <+: bs ∧ Vm.enc y <+: bs.drop (Vm.sz x) ∧ Bm.chkL l = 0 ∧ Bm.encB l <+: bs.drop (Vm.sz x + Vm.sz y)) := ⟨px, py, hc, hp⟩
      clear hk px py hc hp
      go_wp2_with fail
      refine (ccheck_any x y _ l _ ownV.is hfit (by omega)).mono ?_
      rintro E w4 ⟨rfl, bel4⟩
      obtain ⟨px, py, hc, hp⟩ := P.out
      have sz4 := bel4.size
      have hB4 := (bel4.block w.heap.size (by omega)).trans H3.out
      have hC4 := (bel4.block w2.heap.size (by omega)).trans HC.out
      have bel04 := bel0V.trans (bel4.mono (by omega))
      have d0 := blk_cell hC4 0 rfl
      have d1 := blk_cell hC4 1 rfl
      have d2 := blk_cell hC4 2 rfl
      have own4 := ownV.below bel4
      clear hZ z0 z1 z2 belZ a0 a1 a2 f0 f1 f2 c0 c1 c2 hV hV2 belV bel0V ownV H3 HC bel4 P
      by_cases hck : Cm.chk x y l = 0
      · rw [hck]
        obtain ⟨V', hV', bV', gV', ⟨a0, a1, a2⟩, ⟨f0, f1, f2⟩, ⟨z0, z1, z2⟩⟩ := res_step hB4 (.int .i64 x) (.int .i64 y) (.slice ah l.length ch)
        have belV' := below_put bel04 gV' (Nat.le_refl _) (by omega)
        have ownV' := (own4.keptg gV' (by omega)).rebase (base' := w.heap.size) (by omega)
        have HR : Hid (Cm.CRes bs x y l 0) := hide (.inl ⟨rfl, hck, Cm.is_commit px py hp HK.out⟩)
        clear px py hc hp bV' gV' hB4 own4 bel04 hck HK hC4
        go_wp2
        refine bodyPost_ret (v := .tuple #[.agg #[.int .i64 x, .int .i64 y, .slice ah l.length ch], .int .i64 0]) (by simp [results, Try.results9, go_sem, z0, z1, z2]) rfl ?_
        exact ⟨_, _, _, _, _, rfl, ownV', HR.out, belV'⟩
      · have HR : Hid (Cm.CRes bs 0 0 [] 5) := hide (.inr ⟨rfl, rfl, rfl, rfl, Cm.no_left px py hc hp (.inr hck)⟩)
        have hne : (Cm.chk x y l == 0) = false := by simpa using hck
        obtain ⟨V', hV', bV', gV', ⟨a0, a1, a2⟩, ⟨f0, f1, f2⟩, ⟨z0, z1, z2⟩⟩ := res_step hB4 (.int .i64 0) (.int .i64 0) (.slice none 0 0)
        have belV' := below_put bel04 gV' (Nat.le_refl _) (by omega)
        generalize Cm.chk x y l = ck at *
        clear px py hc hp bV' gV' hB4 own4 bel04 hck HK hC4
        go_wp2
        refine bodyPost_ret (v := .tuple #[.agg #[.int .i64 0, .int .i64 0, .slice none 0 0], .int .i64 5]) (by simp [results, Try.results9, go_sem, z0, z1, z2]) rfl ?_
        exact ⟨_, _, _, _, _, rfl, OwnO.nil _ _ _, HR.out, belV'⟩
    · have HR : Hid (Cm.CRes bs 0 0 [] 5) := hide (.inr ⟨rfl, rfl, rfl, rfl, Cm.no_left px py hc hp (.inl hk)⟩)
      generalize Vm.sz x + Vm.sz y + (Bm.encB l).length = q at *
      have hkk : ((q : Int) != (bs.length : Int)) = true := by simp; omega
      clear hk px py hc hp
      go_wp2
      refine bodyPost_ret (v := .tuple #[.agg #[.int .i64 0, .int .i64 0, .slice none 0 0], .int .i64 5]) (by simp [results, Try.results9, go_sem, z0, z1, z2]) rfl ?_
      exact ⟨_, _, _, _, _, rfl, OwnO.nil _ _ _, HR.out, belZ⟩
  · have HR : Hid (Cm.CRes bs 0 0 [] 5) := hide (.inr ⟨rfl, rfl, rfl, rfl, hno⟩)
    clear hno
    simp only [List.length_nil] at hV hV2 c2
    go_wp2
    refine bodyPost_ret (v := .tuple #[.agg #[.int .i64 0, .int .i64 0, .slice none 0 0], .int .i64 5]) (by simp [results, Try.results9, go_sem, z0, z1, z2]) rfl ?_
    exact ⟨_, _, _, _, _, rfl, OwnO.nil _ _ _, HR.out, belZ⟩

end Go.Proofs.Ytlfgffldoiedlaa
