/- Texts of one layer, one behind the other. -/
import Derived.Test.YtfnaeblbodfekaaG6
import Derived.Test.YtfnaeblbodfekaaGC
import Derived.Test.YtfnaeblbodfekaaG8
import Derived.Test.YtfnaeblbodfekaaG4
import Derived.Test.YtfnaeblbodfekaaG9
import Derived.Test.YtfnaeblbodfekaaG2
import Derived.Lib.SliceRun
/- The contracts of the program's read and Decode of a commit. -/
namespace Go.Proofs.Ytfnaeblbodfekaa
open Go.RowKit
set_option linter.unusedVariables false

/-- What read comes to. -/
def RRes (bs : List Int) (e n : Int) (l : List Bm.Ov) (k g : Int) : Prop :=
  (g = 0 ∧ ∃ x y : Nat, x ≤ 1048576 ∧ y ≤ 1048576 ∧ Vm.enc x <+: bs ∧ Vm.enc y <+: bs.drop (Vm.sz x) ∧ Bm.chkL l = 0 ∧ Bm.encB l <+: bs.drop (Vm.sz x + Vm.sz y) ∧ e = x ∧ n = y ∧ k = ((Vm.sz x + Vm.sz y + (Bm.encB l).length : Nat) : Int)) ∨
  (g = 5 ∧ e = 0 ∧ n = 0 ∧ l = [] ∧ k = 0 ∧ ∀ e' n' l', Cm.chk e' n' l' = 0 → Cm.encC e' n' l' ≠ bs)

theorem sres_num {bs : List Int} {u i g : Int} (h : SRes bs 1048576 u i g) :
    (g = 0 ∧ ∃ x s : Nat, x ≤ 1048576 ∧ Vm.enc x <+: bs ∧ Vm.sz x = s ∧ u = x ∧ i = s ∧ s ≤ bs.length ∧ s ≤ 10) ∨ (g = 5 ∧ u = 0 ∧ i = 0 ∧ Cm.NoNum bs) := by
  rcases h with ⟨hR, _, h2, rfl⟩ | ⟨rfl, rfl, rfl, x, n, e, hR, hx⟩
  · have hb := Vm.res_bounds hR
    rcases hR with ⟨x, h3, h4, rfl, rfl, _⟩ | ⟨_, _, _, h⟩
    · exact .inl ⟨rfl, x, _, by omega, h4, rfl, rfl, rfl, by omega, by omega⟩
    · simp at h
  · refine .inr ⟨rfl, rfl, rfl, fun y hy hp => ?_⟩
    obtain ⟨e1, e2, e3⟩ := Vm.res_good hR (by omega) hp
    omega

end Go.Proofs.Ytfnaeblbodfekaa

/- The contract of the program's Decode. -/
namespace Go.Proofs.Ytfnaeblbodfekaa
open Go.RowKit
set_option linter.unusedVariables false

end Go.Proofs.Ytfnaeblbodfekaa

/- The contract of the document's reader's Done. -/
namespace Go.Proofs.Ytfnaeblbodfekaa
open Go.RowKit
set_option linter.unusedVariables false

end Go.Proofs.Ytfnaeblbodfekaa

/- slices.Clone of a list of ops. -/
namespace Go.Proofs.Ytfnaeblbodfekaa
open Go.RowKit
set_option linter.unusedVariables false

set_option maxHeartbeats 400000 in
theorem cloneO_any (vl : Value) (l : List Bm.Ov) (w : World) (h : IsO w vl l) (hl : l.length * 40 ≤ 140737488351232) :
    Calls Try.prog 51 #[vl] w fun e w' => ∃ v, e = .returned v ∧ OwnO 59 w.heap.size w' v l ∧ Below w.heap.size w w' := by
  have q : ∀ (w : World) (a : Option Addr) (n c n' c' : Nat), (binOp .eql 48 (.slice a n c) (.slice none n' c')).run Try.prog w = .ok (.bool a.isNone) w := fun w a n c n' c' => Lib.run_eql_slice_nil w _ _ a n c n' c' Try.underlying48
  by_cases hn : vl = .slice none 0 0
  · subst hn
    have : l = [] := by
      rcases h with ⟨_, h⟩ | ⟨ad, cap, h, _⟩
      · exact h
      · simp at h
    subst this
    clear h hl
    go_enter Try.func51, Try.ntmps51
    go_wp2
    go_ret
    exact ⟨_, rfl, OwnO.nil _ _ _, Below.refl _ _⟩
  · obtain ⟨ad, cap, rfl⟩ : ∃ ad cap, vl = .slice (some ad) l.length cap := by
      rcases h with ⟨h, _⟩ | ⟨ad, cap, h, _⟩
      · exact absurd h hn
      · exact ⟨ad, cap, h⟩
    clear hn
    obtain ⟨w1, hw1, sz1, bel1, own1⟩ := ops_step 59 w #[] 0 [] rfl rfl (by simp [maxLen])
    have h1 := h.below bel1
    go_enter Try.func51, Try.ntmps51
    go_wp2_with (at_builtin; refine wpList_append_ops rfl (.tmp 5) (.tmp 6) 48 rfl 59 w.heap.size Try.underlying48 Try.info59 _ [] rfl own1 _ l rfl h1 (by simp; omega) (by omega) ?_)
    intro v2 w2 own2 bel2 _
    go_wp2
    go_ret
    exact ⟨_, rfl, by simpa using own2, bel1.trans bel2⟩

end Go.Proofs.Ytfnaeblbodfekaa

/- The contract of Copy (commits). -/
namespace Go.Proofs.Ytfnaeblbodfekaa
open Go.RowKit
set_option linter.unusedVariables false

theorem put_one {V : World} {R : Nat} {t : TypeId} {x y z : Value} (hR : V.heap[R]? = some (.cells #[x, y, z] t (0, 0))) (c : Value) :
    ∃ V', V.setCell ⟨R, 2, none⟩ c = V' ∧ V'.heap[R]? = some (.cells #[x, y, c] t (0, 0)) ∧ V.grownBy V' (some R) ∧ V.cell? ⟨R, 2, none⟩ = some z ∧ V.frozen? ⟨R, 2, none⟩ = false :=
  ⟨_, rfl, set_cells hR 2 c, grown_setCell V ⟨R, 2, none⟩ c, blk_cell hR 2 rfl, blk_froz hR 2⟩

set_option maxHeartbeats 400000 in
theorem ccopy_any (e n : Int) (v : Value) (l : List Bm.Ov) (w : World) (h : IsO w v l) (hl : l.length * 40 ≤ 140737488351232) :
    Calls Try.prog 29 #[cmv e n v] w fun E w' => ∃ v', E = .returned (cmv e n v') ∧ OwnO 59 w.heap.size w' v' l ∧ Below w.heap.size w w' := by
  unfold cmv
  obtain ⟨w1, hw1, sz1, bel1, hB⟩ := blk_step w #[.int .i64 e, .int .i64 n, v] 50
  obtain ⟨w2, hw2, sz2, bel2, hR⟩ := blk_step w1 #[.int .i64 0, .int .i64 0, .slice none 0 0] 50
  rw [sz1] at hR
  have hB2 := (bel2.block w.heap.size (by omega)).trans hB
  have bel02 : Below w.heap.size w w2 := bel1.trans (bel2.mono (by omega))
  have h2 := h.below bel02
  obtain ⟨ao, cap, rfl, _, _⟩ := h.shape
  have c2 := blk_cell hB2 2 rfl
  have HB := hide hB2
  have HR := hide hR
  clear hB hB2 hR bel1 bel2
  go_enter Try.func29, Try.ntmps29
  go_wp2_with fail
  refine (cloneO_any _ l _ h2 hl).mono ?_
  rintro E w3 ⟨v3, rfl, own3, bel3⟩
  have sz3 := bel3.size
  have hB3 := (bel3.block w.heap.size (by omega)).trans HB.out
  have hR3 := (bel3.block (w.heap.size + 1) (by omega)).trans HR.out
  have bel03 := bel02.trans (bel3.mono (by omega))
  obtain ⟨ah, ch, hvl, _, _⟩ := own3.is.shape
  subst hvl
  obtain ⟨X, hX, cX, gX, q2, q3⟩ := put_one hB3 (.slice ah l.length ch)
  have szX := gX.size
  have hRX := (gX.block (w.heap.size + 1) (by omega) (by simp)).trans hR3
  have ownX := own3.keptg gX (by omega)
  have bel0X := below_put bel03 gX (Nat.le_refl _) (by omega)
  have d0 := blk_cell cX 0 rfl
  have d1 := blk_cell cX 1 rfl
  have d2 := blk_cell cX 2 rfl
  obtain ⟨V', hV', bV', gV', ⟨a0, a1, a2⟩, ⟨f0, f1, f2⟩, ⟨z0, z1, z2⟩⟩ := res_step hRX (.int .i64 e) (.int .i64 n) (.slice ah l.length ch)
  have belV' := below_put bel0X gV' (by omega) (by omega)
  have ownV' := (ownX.keptg gV' (by omega)).rebase (base' := w.heap.size) (by omega)
  clear HB HR hB3 hR3 cX gX hRX bV' gV' own3 ownX bel03 bel0X bel3 c2
  go_wp2
  refine bodyPost_ret (v := .agg #[.int .i64 e, .int .i64 n, .slice ah l.length ch]) (by simp [results, Try.results29, go_sem, z0, z1, z2]) rfl ?_
  exact ⟨_, rfl, ownV', belV'⟩

end Go.Proofs.Ytfnaeblbodfekaa

/- The contracts of the document's Done and Decode; of the copy that slices.Clone makes of ops, and of Copy. -/
namespace Go.Proofs.Ytfnaeblbodfekaa
open Go.RowKit
set_option linter.unusedVariables false

/-- What the reader's three steps come to. -/
theorem doc_steps {bs : List Int} {u n a1 a2 a3 : Nat} {b1 b2 b3 : Bool} {l : List Bm.Ov} (s1 : SStep bs 1048576 0 false u a1 b1) (s2 : SStep bs 1048576 a1 b1 n a2 b2) (s3 : Bm.NX bs a2 b2 l a3 b3) :
    (b3 = true ∧ ∀ e' n' l', Cm.chk e' n' l' = 0 → Cm.encC e' n' l' ≠ bs) ∨
    (b3 = false ∧ Vm.enc u <+: bs ∧ Vm.enc n <+: bs.drop (Vm.sz u) ∧ Bm.chkL l = 0 ∧ Bm.encB l <+: bs.drop (Vm.sz u + Vm.sz n) ∧ a3 = Vm.sz u + Vm.sz n + (Bm.encB l).length) := by
  rcases s1 with ⟨h, _⟩ | ⟨_, rfl, rfl, rfl, h1⟩ | ⟨_, rfl, h1, h2, rfl⟩
  · simp at h
  · rcases s2 with ⟨_, rfl, _⟩ | ⟨h, _⟩ | ⟨h, _⟩
    · rcases s3 with ⟨_, rfl, _⟩ | ⟨h, _⟩
      · exact .inl ⟨rfl, Cm.no_epoch (by simpa [Cm.NoNum] using h1)⟩
      · simp at h
    · simp at h
    · simp at h
  · rw [List.drop_zero] at h2
    rw [Nat.zero_add] at s2
    rcases s2 with ⟨h, _⟩ | ⟨_, rfl, rfl, rfl, k1⟩ | ⟨_, rfl, k1, k2, rfl⟩
    · simp at h
    · rcases s3 with ⟨_, rfl, _⟩ | ⟨h, _⟩
      · exact .inl ⟨rfl, Cm.no_number h2 k1⟩
      · simp at h
    · rcases s3 with ⟨h, _⟩ | ⟨_, ⟨rfl, h⟩ | ⟨rfl, _, h⟩⟩
      · simp at h
      · rcases h with ⟨_, g1, g2, g3⟩ | ⟨h, _⟩
        · exact .inr ⟨rfl, h2, k2, g1, g2, by omega⟩
        · simp at h
      · rcases h with ⟨h, _⟩ | ⟨_, _, _, h⟩
        · simp at h
        · exact .inl ⟨rfl, Cm.no_batch h2 k2 h⟩

theorem sstep_le {bs : List Int} {a u a' : Nat} {b b' : Bool} (h : SStep bs 1048576 a b u a' b') : u ≤ 1048576 := by
  rcases h with ⟨_, _, rfl, _⟩ | ⟨_, _, rfl, _⟩ | ⟨_, _, h, _⟩
  · omega
  · omega
  · exact h

theorem nx_small {bs : List Int} {a a' : Nat} {b b' : Bool} {l : List Bm.Ov} (h : Bm.NX bs a b l a' b') : SmallO l ∧ l.length ≤ 8 := by
  rcases h with ⟨_, _, rfl⟩ | ⟨_, ⟨_, h⟩ | ⟨_, rfl, _⟩⟩
  · exact ⟨fun o ho => by simp at ho, by simp⟩
  · exact bres_small h
  · exact ⟨fun o ho => by simp at ho, by simp⟩

end Go.Proofs.Ytfnaeblbodfekaa

/- bytes.Clone. -/
namespace Go.Proofs.Ytfnaeblbodfekaa
open Go.RowKit
set_option linter.unusedVariables false

end Go.Proofs.Ytfnaeblbodfekaa
