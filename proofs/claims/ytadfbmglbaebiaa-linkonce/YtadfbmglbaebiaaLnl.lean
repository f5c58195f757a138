/- A link that is nil, or that nobody made: each call of it; acts in memory. -/
import Derived.Test.YtadfbmglbaebiaaLj
namespace Go.Proofs.Ytadfbmglbaebiaa
open Go.RowKit Go.Shelf
set_option linter.unusedVariables false

/-- No link, or one that nobody made. -/
def NoL (w : World) (v : Value) : Prop := v = .pointer none ∨ ∃ q, v = .pointer (some ⟨q, 0, none⟩) ∧ w.cell? ⟨q, 0, none⟩ = some (.bool false)

theorem NoL.below {w w' : World} {v : Value} (h : NoL w v) (hb : Below w.heap.size w w') : NoL w' v := by
  rcases h with h | ⟨q, h1, h2⟩
  · exact .inl h
  · exact .inr ⟨q, h1, (hb.cell (World.block_lt_of_cell? _ _ h2)).trans h2⟩

theorem NoL.ptr {w : World} {v : Value} (h : NoL w v) : ∃ q, v = .pointer q := by
  rcases h with h | ⟨q, h, _⟩
  · exact ⟨_, h⟩
  · exact ⟨_, h⟩

theorem lmadeN (v : Value) (w : World) (h : NoL w v) : Calls Try.prog 27 #[v] w fun E w' => E = .returned (.bool false) ∧ w = w' := by
  rcases h with rfl | ⟨q, rfl, hc⟩
  · go_enter Try.func27, Try.ntmps27
    go_wp2
    go_ret
    exact ⟨rfl, rfl⟩
  · go_enter Try.func27, Try.ntmps27
    go_wp2
    go_ret
    exact ⟨rfl, rfl⟩

theorem lsendN (v : Value) (to : Int) (vb : Value) (w : World) (h : NoL w v) : Calls Try.prog 10 #[v, .int .i64 to, vb] w fun E w' => E = .returned (.tuple #[.int .i64 0, .int .i64 1]) ∧ w = w' := by
  have HN := hide (lmadeN v w h)
  clear h
  go_enter Try.func10, Try.ntmps10
  go_wp2_with fail
  refine HN.out.mono ?_
  rintro E w1 ⟨rfl, rfl⟩
  go_wp2
  go_ret2
  exact ⟨rfl, rfl⟩

theorem ltwiceN (v : Value) (n : Int) (w : World) (h : NoL w v) : Calls Try.prog 11 #[v, .int .i64 n] w fun E w' => E = .returned (.tuple #[.int .i64 0, .int .i64 1]) ∧ w = w' := by
  have HN := hide (lmadeN v w h)
  clear h
  go_enter Try.func11, Try.ntmps11
  go_wp2_with fail
  refine HN.out.mono ?_
  rintro E w1 ⟨rfl, rfl⟩
  go_wp2
  go_ret2
  exact ⟨rfl, rfl⟩

set_option maxHeartbeats 400000 in
theorem ldelN (v : Value) (n : Int) (w : World) (h : NoL w v) : Calls Try.prog 12 #[v, .int .i64 n] w fun E w' => E = .returned (.tuple #[.agg #[.int .i64 0, .int .i64 0, .slice none 0 0], .int .i64 1]) ∧ Below w.heap.size w w' := by
  obtain ⟨w1, hw1, sz1, bel1, hR⟩ := blk_step w #[.int .i64 0, .int .i64 0, .slice none 0 0] 31
  have HN := hide (lmadeN v w1 (h.below bel1))
  obtain ⟨V', hV', bV', gV', ⟨a0, a1, a2⟩, ⟨f0, f1, f2⟩, ⟨z0, z1, z2⟩⟩ := res_step hR (.int .i64 0) (.int .i64 0) (.slice none 0 0)
  have J := hide (below_put bel1 gV' (Nat.le_refl _) bel1.size)
  clear h hR bV' gV'
  go_enter Try.func12, Try.ntmps12
  go_wp2_with fail
  refine HN.out.mono ?_
  rintro E w2 ⟨rfl, rfl⟩
  go_wp2
  refine bodyPost_ret (v := .tuple #[.agg #[.int .i64 0, .int .i64 0, .slice none 0 0], .int .i64 1]) (by simp [results, Try.results12, go_sem, z0, z1, z2]) rfl ?_
  exact ⟨rfl, J.out⟩

set_option maxHeartbeats 400000 in
theorem ldropN (v : Value) (n : Int) (w : World) (h : NoL w v) : Calls Try.prog 13 #[v, .int .i64 n] w fun E w' => E = .returned (.int .i64 1) ∧ Below w.heap.size w w' := by
  have HD := hide (ldelN v n w h)
  clear h
  go_enter Try.func13, Try.ntmps13
  go_wp2_with fail
  refine HD.out.mono ?_
  rintro E w1 ⟨rfl, b1⟩
  obtain ⟨V, hV, szV, belV, bV⟩ := blk_step w1 #[.int .i64 0, .int .i64 0, .slice none 0 0] 31
  obtain ⟨V', hV', bV', gV', ⟨a0, a1, a2⟩, ⟨f0, f1, f2⟩, ⟨z0, z1, z2⟩⟩ := res_step bV (.int .i64 0) (.int .i64 0) (.slice none 0 0)
  have J := hide (below_put (b1.trans (belV.mono b1.size)) gV' b1.size (by have := b1.size; omega))
  clear bV belV bV' gV'
  go_wp2
  go_ret
  exact ⟨rfl, J.out⟩

theorem lflightN (v : Value) (w : World) (h : NoL w v) : Calls Try.prog 20 #[v] w fun E w' => E = .returned (.slice none 0 0) ∧ w = w' := by
  have HN := hide (lmadeN v w h)
  clear h
  go_enter Try.func20, Try.ntmps20
  go_wp2_with fail
  refine HN.out.mono ?_
  rintro E w1 ⟨rfl, rfl⟩
  go_wp2
  go_ret
  exact ⟨rfl, rfl⟩

theorem lnumsN (v : Value) (w : World) (h : NoL w v) : Calls Try.prog 42 #[v] w fun E w' => E = .returned (.slice none 0 0) ∧ w = w' := by
  have HN := hide (lmadeN v w h)
  clear h
  go_enter Try.func42, Try.ntmps42
  go_wp2_with fail
  refine HN.out.mono ?_
  rintro E w1 ⟨rfl, rfl⟩
  go_wp2
  go_ret
  exact ⟨rfl, rfl⟩

set_option maxHeartbeats 400000 in
theorem lallN (v : Value) (w : World) (h : NoL w v) : Calls Try.prog 25 #[v] w fun E w' => ∃ B, E = .returned (.func (.func 43) #[] #[.pointer (some ⟨B, 0, none⟩)]) ∧ Seq B w.heap.size w' [] ∧ Below w.heap.size w w' := by
  have HN := hide (lnumsN v w h)
  obtain ⟨w2, hw2, sz2, bel2, hB⟩ := blk_step w #[.slice none 0 0] 67
  have J : Hid (Seq w.heap.size w.heap.size w2 []) := hide ⟨Nat.le_refl _, _, hB, Own.nil _ _ _ _⟩
  have hw3 : w2.setCell ⟨w.heap.size, 0, none⟩ (.slice none 0 0) = w2 := set_same hB rfl
  have c0 := blk_cell hB 0 rfl
  have f0 := blk_froz hB 0
  clear h hB
  go_enter Try.func25, Try.ntmps25
  go_wp2_with fail
  refine HN.out.mono ?_
  rintro E w1 ⟨rfl, rfl⟩
  go_wp2
  go_ret
  exact ⟨_, rfl, J.out, bel2⟩

/-- A call as it stands in memory. -/
structure Av where
  k : Int
  n : Int
  v : Value
  bs : List Int

def lactc (a : Av) : List Value := [.int .i64 a.k, .int .i64 a.n, a.v]
theorem lactc_len (a : Av) : (lactc a).length = 3 := rfl

/-- What a call's parts are. -/
def LactOk (w : World) (a : Av) : Prop := Is .u8 w a.v a.bs ∧ I64 a.k ∧ I64 a.n

/-- A slice of calls. -/
def IsLA (w : World) (v : Value) (l : List Av) : Prop := RowG lactc w v l ∧ ∀ a ∈ l, LactOk w a

theorem LactOk.below {w w' : World} {a : Av} (h : LactOk w a) (hb : Below w.heap.size w w') : LactOk w' a := ⟨h.1.below hb, h.2⟩
theorem IsLA.below {w w' : World} {v : Value} {l : List Av} (h : IsLA w v l) (hb : Below w.heap.size w w') : IsLA w' v l := ⟨h.1.below hb, fun a ha => (h.2 a ha).below hb⟩

theorem IsLA.full {w : World} {v : Value} {l : List Av} (h : IsLA w v l) (hne : 0 < l.length) :
    ∃ b off cap, v = .slice (some ⟨b, off, none⟩) l.length cap ∧ l.length ≤ cap ∧ cap ≤ maxLen ∧ b < w.heap.size ∧ ∀ (i : Nat) (a : Av), l[i]? = some a → w.cell? ⟨b, off + i * 3, none⟩ = some (.int .i64 a.k) ∧ w.cell? ⟨b, off + i * 3 + 1, none⟩ = some (.int .i64 a.n) ∧ w.cell? ⟨b, off + i * 3 + 2, none⟩ = some a.v := by
  obtain ⟨b, off, cap, h1, h2, h3, h4, h5⟩ := h.1.full lactc_len (by decide) hne
  exact ⟨b, off, cap, h1, h2, h3, h4, fun i a hi => ⟨h5 i a hi 0 _ rfl, h5 i a hi 1 _ rfl, h5 i a hi 2 _ rfl⟩⟩

end Go.Proofs.Ytadfbmglbaebiaa
