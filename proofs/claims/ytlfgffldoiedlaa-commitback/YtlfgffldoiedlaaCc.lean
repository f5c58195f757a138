/- The contracts of the program's read and Decode of a commit. -/
import Derived.Test.YtlfgffldoiedlaaCa
import Derived.Test.YtlfgffldoiedlaaBn
namespace Go.Proofs.Ytlfgffldoiedlaa
open Go.RowKit
set_option linter.unusedVariables false

/-- What read comes to. -/
def RRes (bs : List Int) (e n : Int) (l : List Bm.Ov) (k g : Int) : Prop :=
  (g = 0 ∧ ∃ x y : Nat, x ≤ 1048576 ∧ y ≤ 1048576 ∧ Vm.enc x <+: bs ∧ Vm.enc y <+: bs.drop (Vm.sz x) ∧ Bm.chkL l = 0 ∧ Bm.encB l <+: bs.drop (Vm.sz x + Vm.sz y) ∧ e = x ∧ n = y ∧ k = ((Vm.sz x + Vm.sz y + (Bm.encB l).length : Nat) : Int)) ∨
  (g = 5 ∧ e = 0 ∧ n = 0 ∧ l = [] ∧ k = 0 ∧ ∀ e' n' l', Cm.chk e' n' l' = 0 → Cm.encC e' n' l' ≠ bs)

theorem sres_num {bs : List Int} {u i g : Int} (h : SRes bs 1048576 u i g) :
    (g = 0 ∧ ∃ x s : Nat, x ≤ 1048576 ∧ Vm.enc x <+: bs ∧ Vm.sz x = s ∧ u = x ∧ i = s ∧ s ≤ bs.length ∧ s ≤ 10) ∨ (g = 5 ∧ u = 0 ∧ i = 0 ∧ Cm.NoNum bs) := by
  rcases h with ⟨hR, _, h2, rfl⟩ | ⟨rfl, rfl, rfl, x, n, e, hR, hx⟩
  · have hb := Vm.res_bounds hR
    rcases hR with ⟨x, h3, h4, rfl, rfl, _⟩ | ⟨_, _, _, h⟩
    · exact .inl ⟨rfl, x, _, by omega, h4, rfl, rfl, rfl, by omega, by omega⟩
    · simp at h
  · refine .inr ⟨rfl, rfl, rfl, fun y hy hp => ?_⟩
    obtain ⟨e1, e2, e3⟩ := Vm.res_good hR (by omega) hp
    omega

/-- Three cells of a block are written. -/
theorem res_step {V : World} {R : Nat} {t : TypeId} {x y z : Value} (hR : V.heap[R]? = some (.cells #[x, y, z] t (0, 0))) (a b c : Value) :
    ∃ V', ((V.setCell ⟨R, 0, none⟩ a).setCell ⟨R, 1, none⟩ b).setCell ⟨R, 2, none⟩ c = V' ∧ V'.heap[R]? = some (.cells #[a, b, c] t (0, 0)) ∧ V.grownBy V' (some R) ∧
      (V.cell? ⟨R, 0, none⟩ = some x ∧ V.cell? ⟨R, 1, none⟩ = some y ∧ V.cell? ⟨R, 2, none⟩ = some z) ∧ (V.frozen? ⟨R, 0, none⟩ = false ∧ V.frozen? ⟨R, 1, none⟩ = false ∧ V.frozen? ⟨R, 2, none⟩ = false) ∧
      (V'.cell? ⟨R, 0, none⟩ = some a ∧ V'.cell? ⟨R, 1, none⟩ = some b ∧ V'.cell? ⟨R, 2, none⟩ = some c) := by
  obtain ⟨V', h1, h2, h3⟩ := put3 hR a b c
  exact ⟨V', h1, h2, h3, ⟨blk_cell hR 0 rfl, blk_cell hR 1 rfl, blk_cell hR 2 rfl⟩, ⟨blk_froz hR 0, blk_froz hR 1, blk_froz hR 2⟩, ⟨blk_cell h2 0 rfl, blk_cell h2 1 rfl, blk_cell h2 2 rfl⟩⟩

theorem below_put {w V V' : World} {R base : Nat} (h : Below base w V) (hg : V.grownBy V' (some R)) (hb : base ≤ R) (hs : base ≤ V.heap.size) : Below base w V' := h.grown hg hs (fun k hk => by simp at hk; omega)

set_option maxHeartbeats 1000000 in
theorem cread_any (vb : Value) (bs : List Int) (w : World) (hb : Is .u8 w vb bs) (hl : bs.length ≤ 140737488355328) :
    Calls Try.prog 34 #[vb] w fun E w' => ∃ (e n k g : Int) (v : Value) (l : List Bm.Ov), E = .returned (.tuple #[cmv e n v, .int .i64 k, .int .i64 g]) ∧ OwnO 58 w.heap.size w' v l ∧ RRes bs e n l k g ∧ Below w.heap.size w w' := by
  unfold cmv
  obtain ⟨w1, hw1, sz1, bel1, hB⟩ := blk_step w #[.int .i64 0, .int .i64 0, .slice none 0 0] 24
  have hb1 := hb.below bel1
  obtain ⟨u, i, g, hS⟩ := sres_is bs 1048576
  obtain ⟨ao, cap, rfl, _, _⟩ := hb.shape
  obtain ⟨Z, hZ, bZ, gZ, ⟨a0, a1, a2⟩, ⟨f0, f1, f2⟩, ⟨z0, z1, z2⟩⟩ := res_step hB (.int .i64 0) (.int .i64 0) (.slice none 0 0)
  have belZ := below_put bel1 gZ (Nat.le_refl _) (by omega)
  have HB := hide hB
  have HS := hide hS
  clear hB bZ gZ
  go_enter Try.func34, Try.ntmps34
  go_wp2_with fail
  refine (small_any _ bs 1048576 u i g _ hb1 hl (by omega) (by omega) HS.out).mono ?_
  rintro E w2 ⟨rfl, rfl⟩
  rcases sres_num HS.out with ⟨rfl, x, s, hx, px, hsx, rfl, rfl, hsl, hs10⟩ | ⟨rfl, rfl, rfl, hN⟩
  · obtain ⟨vs, hvs, isl⟩ := hb1.slice_l Try.elemP Try.sizeP s hsl
    obtain ⟨u, i, g, hS2⟩ := sres_is (bs.drop s) 1048576
    have HX : Hid (Vm.enc x <+: bs ∧ Vm.sz x = s) := ⟨px, hsx⟩
    have HS2 := hide hS2
    clear px hsx hS2 HS
    go_wp2_with fail
    refine (small_any _ _ 1048576 u i g _ isl (by rw [List.length_drop]; omega) (by omega) (by omega) HS2.out).mono ?_
    rintro E w2 ⟨rfl, rfl⟩
    rcases sres_num HS2.out with ⟨rfl, y, r, hy, py, hsy, rfl, rfl, hrl, hr10⟩ | ⟨rfl, rfl, rfl, hN⟩
    · rw [List.length_drop] at hrl
      obtain ⟨vr, hvr, isr⟩ := hb1.slice_l Try.elemP Try.sizeP (s + r) (by omega)
      have HY : Hid (Vm.enc y <+: bs.drop s ∧ Vm.sz y = r) := ⟨py, hsy⟩
      push_cast at hvr
      clear py hsy HS2
      go_wp2_with fail
      refine (bread_any vr _ _ isr (by rw [List.length_drop]; omega)).mono ?_
      rintro E w3 ⟨vl, l, k, e, rfl, ownl, hR, bel3⟩
      have sz3 := bel3.size
      have hB3 := (bel3.block w.heap.size (by omega)).trans HB.out
      have bel03 := bel1.trans (bel3.mono (by omega))
      obtain ⟨px, hsx⟩ := HX.out
      obtain ⟨py, hsy⟩ := HY.out
      clear HX HY hZ a0 a1 a2 f0 f1 f2 z0 z1 z2 belZ bel1 bel3 hb1 isl isr hvs hvr hb
      rcases hR with ⟨rfl, hc, hp, rfl⟩ | ⟨rfl, rfl, rfl, hno⟩
      · obtain ⟨ah, ch, hvl, _, _⟩ := ownl.is.shape
        subst hvl
        have hpl := hp.length_le
        rw [List.length_drop] at hpl
        obtain ⟨V, hV, bV, gV, ⟨a0, a1, a2⟩, ⟨f0, f1, f2⟩, ⟨z0, z1, z2⟩⟩ := res_step hB3 (.int .i64 x) (.int .i64 y) (.slice ah l.length ch)
        have belV := below_put bel03 gV (Nat.le_refl _) (by omega)
        have ownV := (ownl.keptg gV (by omega)).rebase (base' := w.heap.size) (by omega)
        have HR : Hid (RRes bs x y l ((s + r + (Bm.encB l).length : Nat) : Int) 0) := hide (.inl ⟨rfl, x, y, hx, hy, px, by rw [hsx]; exact py, hc, by rw [hsx, hsy]; exact hp, rfl, rfl, by rw [hsx, hsy]⟩)
        clear px py hsx hsy hc hp bV gV hB3 ownl bel03
        go_wp2
        refine bodyPost_ret (v := .tuple #[.agg #[.int .i64 x, .int .i64 y, .slice ah l.length ch], .int .i64 ((s + r + (Bm.encB l).length : Nat) : Int), .int .i64 0]) (by simp [results, Try.results34, go_sem, z0, z1, z2]) rfl ?_
        exact ⟨_, _, _, _, _, _, rfl, ownV, HR.out, belV⟩
      · obtain ⟨V, hV, bV, gV, ⟨a0, a1, a2⟩, ⟨f0, f1, f2⟩, ⟨z0, z1, z2⟩⟩ := res_step hB3 (.int .i64 0) (.int .i64 0) (.slice none 0 0)
        have belV := below_put bel03 gV (Nat.le_refl _) (by omega)
        have HR : Hid (RRes bs 0 0 [] 0 5) := hide (.inr ⟨rfl, rfl, rfl, rfl, rfl, Cm.no_batch px (by rw [hsx]; exact py) (by rw [hsx, hsy]; exact hno)⟩)
        clear px py hsx hsy hno bV gV hB3 ownl bel03
        go_wp2
        refine bodyPost_ret (v := .tuple #[.agg #[.int .i64 0, .int .i64 0, .slice none 0 0], .int .i64 0, .int .i64 5]) (by simp [results, Try.results34, go_sem, z0, z1, z2]) rfl ?_
        exact ⟨_, _, _, _, _, _, rfl, OwnO.nil _ _ _, HR.out, belV⟩
    · have HR : Hid (RRes bs 0 0 [] 0 5) := hide (.inr ⟨rfl, rfl, rfl, rfl, rfl, Cm.no_number HX.out.1 (by rw [HX.out.2]; exact hN)⟩)
      clear hN HS2 HX
      go_wp2
      refine bodyPost_ret (v := .tuple #[.agg #[.int .i64 0, .int .i64 0, .slice none 0 0], .int .i64 0, .int .i64 5]) (by simp [results, Try.results34, go_sem, z0, z1, z2]) rfl ?_
      exact ⟨_, _, _, _, _, _, rfl, OwnO.nil _ _ _, HR.out, belZ⟩
  · have HR : Hid (RRes bs 0 0 [] 0 5) := hide (.inr ⟨rfl, rfl, rfl, rfl, rfl, Cm.no_epoch hN⟩)
    clear hN HS
    go_wp2
    refine bodyPost_ret (v := .tuple #[.agg #[.int .i64 0, .int .i64 0, .slice none 0 0], .int .i64 0, .int .i64 5]) (by simp [results, Try.results34, go_sem, z0, z1, z2]) rfl ?_
    exact ⟨_, _, _, _, _, _, rfl, OwnO.nil _ _ _, HR.out, belZ⟩

end Go.Proofs.Ytlfgffldoiedlaa
