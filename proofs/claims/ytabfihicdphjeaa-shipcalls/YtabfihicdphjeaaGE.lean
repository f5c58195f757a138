/- Texts of one layer, one behind the other. -/
import Derived.Test.YtabfihicdphjeaaG6
import Derived.Test.YtabfihicdphjeaaGD
import Derived.Test.YtabfihicdphjeaaG8
import Derived.Test.YtabfihicdphjeaaG4
import Derived.Test.YtabfihicdphjeaaG9
import Derived.Test.YtabfihicdphjeaaG2
import Derived.Lib.SliceRun
/- The contracts of the program's read and Decode of a commit. -/
namespace Go.Proofs.Ytabfihicdphjeaa
open Go.RowKit
set_option linter.unusedVariables false

/-- What read comes to. -/
def RRes (bs : List Int) (e n : Int) (l : List Bm.Ov) (k g : Int) : Prop :=
  (g = 0 ∧ ∃ x y : Nat, x ≤ 1048576 ∧ y ≤ 1048576 ∧ Vm.enc x <+: bs ∧ Vm.enc y <+: bs.drop (Vm.sz x) ∧ Bm.chkL l = 0 ∧ Bm.encB l <+: bs.drop (Vm.sz x + Vm.sz y) ∧ e = x ∧ n = y ∧ k = ((Vm.sz x + Vm.sz y + (Bm.encB l).length : Nat) : Int)) ∨
  (g = 5 ∧ e = 0 ∧ n = 0 ∧ l = [] ∧ k = 0 ∧ ∀ e' n' l', Cm.chk e' n' l' = 0 → Cm.encC e' n' l' ≠ bs)

theorem sres_num {bs : List Int} {u i g : Int} (h : SRes bs 1048576 u i g) :
    (g = 0 ∧ ∃ x s : Nat, x ≤ 1048576 ∧ Vm.enc x <+: bs ∧ Vm.sz x = s ∧ u = x ∧ i = s ∧ s ≤ bs.length ∧ s ≤ 10) ∨ (g = 5 ∧ u = 0 ∧ i = 0 ∧ Cm.NoNum bs) := by
  rcases h with ⟨hR, _, h2, rfl⟩ | ⟨rfl, rfl, rfl, x, n, e, hR, hx⟩
  · have hb := Vm.res_bounds hR
    rcases hR with ⟨x, h3, h4, rfl, rfl, _⟩ | ⟨_, _, _, h⟩
    · exact .inl ⟨rfl, x, _, by omega, h4, rfl, rfl, rfl, by omega, by omega⟩
    · simp at h
  · refine .inr ⟨rfl, rfl, rfl, fun y hy hp => ?_⟩
    obtain ⟨e1, e2, e3⟩ := Vm.res_good hR (by omega) hp
    omega

set_option maxHeartbeats 1000000 in
theorem cread_any (vb : Value) (bs : List Int) (w : World) (hb : Is .u8 w vb bs) (hl : bs.length ≤ 140737488355328) :
    Calls Try.prog 85 #[vb] w fun E w' => ∃ (e n k g : Int) (v : Value) (l : List Bm.Ov), E = .returned (.tuple #[cmv e n v, .int .i64 k, .int .i64 g]) ∧ OwnO 62 w.heap.size w' v l ∧ RRes bs e n l k g ∧ Below w.heap.size w w' := by
  unfold cmv
  obtain ⟨w1, hw1, sz1, bel1, hB⟩ := blk_step w #[.int .i64 0, .int .i64 0, .slice none 0 0] 46
  have hb1 := hb.below bel1
  obtain ⟨u, i, g, hS⟩ := sres_is bs 1048576
  obtain ⟨ao, cap, rfl, _, _⟩ := hb.shape
  obtain ⟨Z, hZ, bZ, gZ, ⟨a0, a1, a2⟩, ⟨f0, f1, f2⟩, ⟨z0, z1, z2⟩⟩ := res_step hB (.int .i64 0) (.int .i64 0) (.slice none 0 0)
  have belZ := below_put bel1 gZ (Nat.le_refl _) (by omega)
  have HB := hide hB
  have HS := hide hS
  clear hB bZ gZ
  go_enter Try.func85, Try.ntmps85
  go_wp2_with fail
  refine (small_any _ bs 1048576 u i g _ hb1 (by omega) (by omega) (by omega) HS.out).mono ?_
  rintro E w2 ⟨rfl, rfl⟩
  rcases sres_num HS.out with ⟨rfl, x, s, hx, px, hsx, rfl, rfl, hsl, hs10⟩ | ⟨rfl, rfl, rfl, hN⟩
  · obtain ⟨vs, hvs, isl⟩ := hb1.slice_l Try.elemP Try.sizeP s hsl
    obtain ⟨u, i, g, hS2⟩ := sres_is (bs.drop s) 1048576
    have HX : Hid (Vm.enc x <+: bs ∧ Vm.sz x = s) := ⟨px, hsx⟩
    have HS2 := hide hS2
    clear px hsx hS2 HS
    go_wp2_with fail
    refine (small_any _ _ 1048576 u i g _ isl (by rw [List.length_drop]; omega) (by omega) (by omega) HS2.out).mono ?_
    rintro E w2 ⟨rfl, rfl⟩
    rcases sres_num HS2.out with ⟨rfl, y, r, hy, py, hsy, rfl, rfl, hrl, hr10⟩ | ⟨rfl, rfl, rfl, hN⟩
    · rw [List.length_drop] at hrl
      obtain ⟨vr, hvr, isr⟩ := hb1.slice_l Try.elemP Try.sizeP (s + r) (by omega)
      have HY : Hid (Vm.enc y <+: bs.drop s ∧ Vm.sz y = r) := ⟨py, hsy⟩
      push_cast at hvr
      clear py hsy HS2
      go_wp2_with fail
      refine (bread_any vr _ _ isr (by rw [List.length_drop]; omega)).mono ?_
      rintro E w3 ⟨vl, l, k, e, rfl, ownl, hR, bel3⟩
      have sz3 := bel3.size
      have hB3 := (bel3.block w.heap.size (by omega)).trans HB.out
      have bel03 := bel1.trans (bel3.mono (by omega))
      obtain ⟨px, hsx⟩ := HX.out
      obtain ⟨py, hsy⟩ := HY.out
      clear HX HY hZ a0 a1 a2 f0 f1 f2 z0 z1 z2 belZ bel1 bel3 hb1 isl isr hvs hvr hb
      rcases hR with ⟨rfl, hc, hp, rfl⟩ | ⟨rfl, rfl, rfl, hno⟩
      · obtain ⟨ah, ch, hvl, _, _⟩ := ownl.is.shape
        subst hvl
        have hpl := hp.length_le
        rw [List.length_drop] at hpl
        obtain ⟨V, hV, bV, gV, ⟨a0, a1, a2⟩, ⟨f0, f1, f2⟩, ⟨z0, z1, z2⟩⟩ := res_step hB3 (.int .i64 x) (.int .i64 y) (.slice ah l.length ch)
        have belV := below_put bel03 gV (Nat.le_refl _) (by omega)
        have ownV := (ownl.keptg gV (by omega)).rebase (base' := w.heap.size) (by omega)
        have HR : Hid (RRes bs x y l ((s + r + (Bm.encB l).length : Nat) : Int) 0) := hide (.inl ⟨rfl, x, y, hx, hy, px, by rw [hsx]; exact py, hc, by rw [hsx, hsy]; exact hp, rfl, rfl, by rw [hsx, hsy]⟩)
        clear px py hsx hsy hc hp bV gV hB3 ownl bel03
        go_wp2
        refine bodyPost_ret (v := .tuple #[.agg #[.int .i64 x, .int .i64 y, .slice ah l.length ch], .int .i64 ((s + r + (Bm.encB l).length : Nat) : Int), .int .i64 0]) (by simp [results, Try.results85, go_sem, z0, z1, z2]) rfl ?_
        exact ⟨_, _, _, _, _, _, rfl, ownV, HR.out, belV⟩
      · obtain ⟨V, hV, bV, gV, ⟨a0, a1, a2⟩, ⟨f0, f1, f2⟩, ⟨z0, z1, z2⟩⟩ := res_step hB3 (.int .i64 0) (.int .i64 0) (.slice none 0 0)
        have belV := below_put bel03 gV (Nat.le_refl _) (by omega)
        have HR : Hid (RRes bs 0 0 [] 0 5) := hide (.inr ⟨rfl, rfl, rfl, rfl, rfl, Cm.no_batch px (by rw [hsx]; exact py) (by rw [hsx, hsy]; exact hno)⟩)
        clear px py hsx hsy hno bV gV hB3 ownl bel03
        go_wp2
        refine bodyPost_ret (v := .tuple #[.agg #[.int .i64 0, .int .i64 0, .slice none 0 0], .int .i64 0, .int .i64 5]) (by simp [results, Try.results85, go_sem, z0, z1, z2]) rfl ?_
        exact ⟨_, _, _, _, _, _, rfl, OwnO.nil _ _ _, HR.out, belV⟩
    · have HR : Hid (RRes bs 0 0 [] 0 5) := hide (.inr ⟨rfl, rfl, rfl, rfl, rfl, Cm.no_number HX.out.1 (by rw [HX.out.2]; exact hN)⟩)
      clear hN HS2 HX
      go_wp2
      refine bodyPost_ret (v := .tuple #[.agg #[.int .i64 0, .int .i64 0, .slice none 0 0], .int .i64 0, .int .i64 5]) (by simp [results, Try.results85, go_sem, z0, z1, z2]) rfl ?_
      exact ⟨_, _, _, _, _, _, rfl, OwnO.nil _ _ _, HR.out, belZ⟩
  · have HR : Hid (RRes bs 0 0 [] 0 5) := hide (.inr ⟨rfl, rfl, rfl, rfl, rfl, Cm.no_epoch hN⟩)
    clear hN HS
    go_wp2
    refine bodyPost_ret (v := .tuple #[.agg #[.int .i64 0, .int .i64 0, .slice none 0 0], .int .i64 0, .int .i64 5]) (by simp [results, Try.results85, go_sem, z0, z1, z2]) rfl ?_
    exact ⟨_, _, _, _, _, _, rfl, OwnO.nil _ _ _, HR.out, belZ⟩

end Go.Proofs.Ytabfihicdphjeaa

/- The contract of the program's Decode. -/
namespace Go.Proofs.Ytabfihicdphjeaa
open Go.RowKit
set_option linter.unusedVariables false

set_option maxHeartbeats 1000000 in
theorem cdec_any (vb : Value) (bs : List Int) (w : World) (hb : Is .u8 w vb bs) (hl : bs.length ≤ 140737488355328) :
    Calls Try.prog 73 #[vb] w fun E w' => ∃ (e n g : Int) (v : Value) (l : List Bm.Ov), E = .returned (.tuple #[cmv e n v, .int .i64 g]) ∧ OwnO 62 w.heap.size w' v l ∧ Cm.CRes bs e n l g ∧ Below w.heap.size w w' := by
  unfold cmv
  obtain ⟨w1, hw1, sz1, bel1, hB⟩ := blk_step w #[.int .i64 0, .int .i64 0, .slice none 0 0] 46
  have hb1 := hb.below bel1
  obtain ⟨ao, cap, rfl, _, _⟩ := hb.shape
  have HB := hide hB
  clear hB
  go_enter Try.func73, Try.ntmps73
  go_wp2_with fail
  refine (cread_any _ bs _ hb1 (by omega)).mono ?_
  rintro E w2 ⟨e, n, k, g, vl, l, rfl, ownl, hR, bel2⟩
  unfold cmv
  have sz2 := bel2.size
  have hB2 := (bel2.block w.heap.size (by omega)).trans HB.out
  have bel02 := bel1.trans (bel2.mono (by omega))
  obtain ⟨ah, ch, hvl, _, _⟩ := ownl.is.shape
  subst hvl
  obtain ⟨V, hV, hV2, szV, belV, bC, c0, c1, c2⟩ := new_step w2 46 (.int .i64 0) (.int .i64 0) (.slice none 0 0) (.int .i64 e) (.int .i64 n) (.slice ah l.length ch)
  have hB3 := (belV.block w.heap.size (by omega)).trans hB2
  have bel0V := bel02.trans (belV.mono (by omega))
  obtain ⟨Z, hZ, bZ, gZ, ⟨a0, a1, a2⟩, ⟨f0, f1, f2⟩, ⟨z0, z1, z2⟩⟩ := res_step hB3 (.int .i64 0) (.int .i64 0) (.slice none 0 0)
  have belZ := below_put bel0V gZ (Nat.le_refl _) (by omega)
  have H3 := hide hB3
  have HC := hide bC
  have ownV := ownl.below belV
  clear hB2 hB3 bC bZ gZ bel1 bel2 bel02 HB ownl hb1
  rcases hR with ⟨rfl, x, y, hx, hy, px, py, hc, hp, rfl, rfl, rfl⟩ | ⟨rfl, rfl, rfl, rfl, rfl, hno⟩
  · by_cases hk : Vm.sz x + Vm.sz y + (Bm.encB l).length = bs.length
    · have HK := hide hk
      rw [hk]
      have hkk : ((bs.length : Int) != (bs.length : Int)) = false := by simp
      have hfit := (small_of hc).fit
      have hl8 := (Bm.chkL_zero hc).2.1
      have P : Hid (Vm.enc x <+: bs ∧ Vm.enc y <+: bs.drop (Vm.sz x) ∧ Bm.chkL l = 0 ∧ Bm.encB l <+: bs.drop (Vm.sz x + Vm.sz y)) := ⟨px, py, hc, hp⟩
      clear hk px py hc hp
      go_wp2_with fail
      refine (ccheck_any x y _ l _ ownV.is hfit (by omega)).mono ?_
      rintro E w4 ⟨rfl, bel4⟩
      obtain ⟨px, py, hc, hp⟩ := P.out
      have sz4 := bel4.size
      have hB4 := (bel4.block w.heap.size (by omega)).trans H3.out
      have hC4 := (bel4.block w2.heap.size (by omega)).trans HC.out
      have bel04 := bel0V.trans (bel4.mono (by omega))
      have d0 := blk_cell hC4 0 rfl
      have d1 := blk_cell hC4 1 rfl
      have d2 := blk_cell hC4 2 rfl
      have own4 := ownV.below bel4
      clear hZ z0 z1 z2 belZ a0 a1 a2 f0 f1 f2 c0 c1 c2 hV hV2 belV bel0V ownV H3 HC bel4 P
      by_cases hck : Cm.chk x y l = 0
      · rw [hck]
        obtain ⟨V', hV', bV', gV', ⟨a0, a1, a2⟩, ⟨f0, f1, f2⟩, ⟨z0, z1, z2⟩⟩ := res_step hB4 (.int .i64 x) (.int .i64 y) (.slice ah l.length ch)
        have belV' := below_put bel04 gV' (Nat.le_refl _) (by omega)
        have ownV' := (own4.keptg gV' (by omega)).rebase (base' := w.heap.size) (by omega)
        have HR : Hid (Cm.CRes bs x y l 0) := hide (.inl ⟨rfl, hck, Cm.is_commit px py hp HK.out⟩)
        clear px py hc hp bV' gV' hB4 own4 bel04 hck HK hC4
        go_wp2
        refine bodyPost_ret (v := .tuple #[.agg #[.int .i64 x, .int .i64 y, .slice ah l.length ch], .int .i64 0]) (by simp [results, Try.results73, go_sem, z0, z1, z2]) rfl ?_
        exact ⟨_, _, _, _, _, rfl, ownV', HR.out, belV'⟩
      · have HR : Hid (Cm.CRes bs 0 0 [] 5) := hide (.inr ⟨rfl, rfl, rfl, rfl, Cm.no_left px py hc hp (.inr hck)⟩)
        have hne : (Cm.chk x y l == 0) = false := by simpa using hck
        obtain ⟨V', hV', bV', gV', ⟨a0, a1, a2⟩, ⟨f0, f1, f2⟩, ⟨z0, z1, z2⟩⟩ := res_step hB4 (.int .i64 0) (.int .i64 0) (.slice none 0 0)
        have belV' := below_put bel04 gV' (Nat.le_refl _) (by omega)
        generalize Cm.chk x y l = ck at *
        clear px py hc hp bV' gV' hB4 own4 bel04 hck HK hC4
        go_wp2
        refine bodyPost_ret (v := .tuple #[.agg #[.int .i64 0, .int .i64 0, .slice none 0 0], .int .i64 5]) (by simp [results, Try.results73, go_sem, z0, z1, z2]) rfl ?_
        exact ⟨_, _, _, _, _, rfl, OwnO.nil _ _ _, HR.out, belV'⟩
    · have HR : Hid (Cm.CRes bs 0 0 [] 5) := hide (.inr ⟨rfl, rfl, rfl, rfl, Cm.no_left px py hc hp (.inl hk)⟩)
      generalize Vm.sz x + Vm.sz y + (Bm.encB l).length = q at *
      have hkk : ((q : Int) != (bs.length : Int)) = true := by simp; omega
      clear hk px py hc hp
      go_wp2
      refine bodyPost_ret (v := .tuple #[.agg #[.int .i64 0, .int .i64 0, .slice none 0 0], .int .i64 5]) (by simp [results, Try.results73, go_sem, z0, z1, z2]) rfl ?_
      exact ⟨_, _, _, _, _, rfl, OwnO.nil _ _ _, HR.out, belZ⟩
  · have HR : Hid (Cm.CRes bs 0 0 [] 5) := hide (.inr ⟨rfl, rfl, rfl, rfl, hno⟩)
    clear hno
    simp only [List.length_nil] at hV hV2 c2
    go_wp2
    refine bodyPost_ret (v := .tuple #[.agg #[.int .i64 0, .int .i64 0, .slice none 0 0], .int .i64 5]) (by simp [results, Try.results73, go_sem, z0, z1, z2]) rfl ?_
    exact ⟨_, _, _, _, _, rfl, OwnO.nil _ _ _, HR.out, belZ⟩

end Go.Proofs.Ytabfihicdphjeaa

/- The contract of the document's reader's Done. -/
namespace Go.Proofs.Ytabfihicdphjeaa
open Go.RowKit
set_option linter.unusedVariables false

end Go.Proofs.Ytabfihicdphjeaa

/- slices.Clone of a list of ops. -/
namespace Go.Proofs.Ytabfihicdphjeaa
open Go.RowKit
set_option linter.unusedVariables false

set_option maxHeartbeats 400000 in
theorem cloneO_any (vl : Value) (l : List Bm.Ov) (w : World) (h : IsO w vl l) (hl : l.length * 40 ≤ 140737488351232) :
    Calls Try.prog 78 #[vl] w fun e w' => ∃ v, e = .returned v ∧ OwnO 62 w.heap.size w' v l ∧ Below w.heap.size w w' := by
  have q : ∀ (w : World) (a : Option Addr) (n c n' c' : Nat), (binOp .eql 44 (.slice a n c) (.slice none n' c')).run Try.prog w = .ok (.bool a.isNone) w := fun w a n c n' c' => Lib.run_eql_slice_nil w _ _ a n c n' c' Try.underlying44
  by_cases hn : vl = .slice none 0 0
  · subst hn
    have : l = [] := by
      rcases h with ⟨_, h⟩ | ⟨ad, cap, h, _⟩
      · exact h
      · simp at h
    subst this
    clear h hl
    go_enter Try.func78, Try.ntmps78
    go_wp2
    go_ret
    exact ⟨_, rfl, OwnO.nil _ _ _, Below.refl _ _⟩
  · obtain ⟨ad, cap, rfl⟩ : ∃ ad cap, vl = .slice (some ad) l.length cap := by
      rcases h with ⟨h, _⟩ | ⟨ad, cap, h, _⟩
      · exact absurd h hn
      · exact ⟨ad, cap, h⟩
    clear hn
    obtain ⟨w1, hw1, sz1, bel1, own1⟩ := ops_step 62 w #[] 0 [] rfl rfl (by simp [maxLen])
    have h1 := h.below bel1
    go_enter Try.func78, Try.ntmps78
    go_wp2_with (at_builtin; refine wpList_append_ops rfl (.tmp 5) (.tmp 6) 44 rfl 62 w.heap.size Try.underlying44 Try.info62 _ [] rfl own1 _ l rfl h1 (by simp; omega) (by omega) ?_)
    intro v2 w2 own2 bel2 _
    go_wp2
    go_ret
    exact ⟨_, rfl, by simpa using own2, bel1.trans bel2⟩

end Go.Proofs.Ytabfihicdphjeaa

/- The contract of Copy (commits). -/
namespace Go.Proofs.Ytabfihicdphjeaa
open Go.RowKit
set_option linter.unusedVariables false

theorem put_one {V : World} {R : Nat} {t : TypeId} {x y z : Value} (hR : V.heap[R]? = some (.cells #[x, y, z] t (0, 0))) (c : Value) :
    ∃ V', V.setCell ⟨R, 2, none⟩ c = V' ∧ V'.heap[R]? = some (.cells #[x, y, c] t (0, 0)) ∧ V.grownBy V' (some R) ∧ V.cell? ⟨R, 2, none⟩ = some z ∧ V.frozen? ⟨R, 2, none⟩ = false :=
  ⟨_, rfl, set_cells hR 2 c, grown_setCell V ⟨R, 2, none⟩ c, blk_cell hR 2 rfl, blk_froz hR 2⟩

set_option maxHeartbeats 400000 in
theorem ccopy_any (e n : Int) (v : Value) (l : List Bm.Ov) (w : World) (h : IsO w v l) (hl : l.length * 40 ≤ 140737488351232) :
    Calls Try.prog 55 #[cmv e n v] w fun E w' => ∃ v', E = .returned (cmv e n v') ∧ OwnO 62 w.heap.size w' v' l ∧ Below w.heap.size w w' := by
  unfold cmv
  obtain ⟨w1, hw1, sz1, bel1, hB⟩ := blk_step w #[.int .i64 e, .int .i64 n, v] 46
  obtain ⟨w2, hw2, sz2, bel2, hR⟩ := blk_step w1 #[.int .i64 0, .int .i64 0, .slice none 0 0] 46
  rw [sz1] at hR
  have hB2 := (bel2.block w.heap.size (by omega)).trans hB
  have bel02 : Below w.heap.size w w2 := bel1.trans (bel2.mono (by omega))
  have h2 := h.below bel02
  obtain ⟨ao, cap, rfl, _, _⟩ := h.shape
  have c2 := blk_cell hB2 2 rfl
  have HB := hide hB2
  have HR := hide hR
  clear hB hB2 hR bel1 bel2
  go_enter Try.func55, Try.ntmps55
  go_wp2_with fail
  refine (cloneO_any _ l _ h2 hl).mono ?_
  rintro E w3 ⟨v3, rfl, own3, bel3⟩
  have sz3 := bel3.size
  have hB3 := (bel3.block w.heap.size (by omega)).trans HB.out
  have hR3 := (bel3.block (w.heap.size + 1) (by omega)).trans HR.out
  have bel03 := bel02.trans (bel3.mono (by omega))
  obtain ⟨ah, ch, hvl, _, _⟩ := own3.is.shape
  subst hvl
  obtain ⟨X, hX, cX, gX, q2, q3⟩ := put_one hB3 (.slice ah l.length ch)
  have szX := gX.size
  have hRX := (gX.block (w.heap.size + 1) (by omega) (by simp)).trans hR3
  have ownX := own3.keptg gX (by omega)
  have bel0X := below_put bel03 gX (Nat.le_refl _) (by omega)
  have d0 := blk_cell cX 0 rfl
  have d1 := blk_cell cX 1 rfl
  have d2 := blk_cell cX 2 rfl
  obtain ⟨V', hV', bV', gV', ⟨a0, a1, a2⟩, ⟨f0, f1, f2⟩, ⟨z0, z1, z2⟩⟩ := res_step hRX (.int .i64 e) (.int .i64 n) (.slice ah l.length ch)
  have belV' := below_put bel0X gV' (by omega) (by omega)
  have ownV' := (ownX.keptg gV' (by omega)).rebase (base' := w.heap.size) (by omega)
  clear HB HR hB3 hR3 cX gX hRX bV' gV' own3 ownX bel03 bel0X bel3 c2
  go_wp2
  refine bodyPost_ret (v := .agg #[.int .i64 e, .int .i64 n, .slice ah l.length ch]) (by simp [results, Try.results55, go_sem, z0, z1, z2]) rfl ?_
  exact ⟨_, rfl, ownV', belV'⟩

end Go.Proofs.Ytabfihicdphjeaa

/- The contracts of the document's Done and Decode; of the copy that slices.Clone makes of ops, and of Copy. -/
namespace Go.Proofs.Ytabfihicdphjeaa
open Go.RowKit
set_option linter.unusedVariables false

/-- What the reader's three steps come to. -/
theorem doc_steps {bs : List Int} {u n a1 a2 a3 : Nat} {b1 b2 b3 : Bool} {l : List Bm.Ov} (s1 : SStep bs 1048576 0 false u a1 b1) (s2 : SStep bs 1048576 a1 b1 n a2 b2) (s3 : Bm.NX bs a2 b2 l a3 b3) :
    (b3 = true ∧ ∀ e' n' l', Cm.chk e' n' l' = 0 → Cm.encC e' n' l' ≠ bs) ∨
    (b3 = false ∧ Vm.enc u <+: bs ∧ Vm.enc n <+: bs.drop (Vm.sz u) ∧ Bm.chkL l = 0 ∧ Bm.encB l <+: bs.drop (Vm.sz u + Vm.sz n) ∧ a3 = Vm.sz u + Vm.sz n + (Bm.encB l).length) := by
  rcases s1 with ⟨h, _⟩ | ⟨_, rfl, rfl, rfl, h1⟩ | ⟨_, rfl, h1, h2, rfl⟩
  · simp at h
  · rcases s2 with ⟨_, rfl, _⟩ | ⟨h, _⟩ | ⟨h, _⟩
    · rcases s3 with ⟨_, rfl, _⟩ | ⟨h, _⟩
      · exact .inl ⟨rfl, Cm.no_epoch (by simpa [Cm.NoNum] using h1)⟩
      · simp at h
    · simp at h
    · simp at h
  · rw [List.drop_zero] at h2
    rw [Nat.zero_add] at s2
    rcases s2 with ⟨h, _⟩ | ⟨_, rfl, rfl, rfl, k1⟩ | ⟨_, rfl, k1, k2, rfl⟩
    · simp at h
    · rcases s3 with ⟨_, rfl, _⟩ | ⟨h, _⟩
      · exact .inl ⟨rfl, Cm.no_number h2 k1⟩
      · simp at h
    · rcases s3 with ⟨h, _⟩ | ⟨_, ⟨rfl, h⟩ | ⟨rfl, _, h⟩⟩
      · simp at h
      · rcases h with ⟨_, g1, g2, g3⟩ | ⟨h, _⟩
        · exact .inr ⟨rfl, h2, k2, g1, g2, by omega⟩
        · simp at h
      · rcases h with ⟨h, _⟩ | ⟨_, _, _, h⟩
        · simp at h
        · exact .inl ⟨rfl, Cm.no_batch h2 k2 h⟩

theorem sstep_le {bs : List Int} {a u a' : Nat} {b b' : Bool} (h : SStep bs 1048576 a b u a' b') : u ≤ 1048576 := by
  rcases h with ⟨_, _, rfl, _⟩ | ⟨_, _, rfl, _⟩ | ⟨_, _, h, _⟩
  · omega
  · omega
  · exact h

theorem nx_small {bs : List Int} {a a' : Nat} {b b' : Bool} {l : List Bm.Ov} (h : Bm.NX bs a b l a' b') : SmallO l ∧ l.length ≤ 8 := by
  rcases h with ⟨_, _, rfl⟩ | ⟨_, ⟨_, h⟩ | ⟨_, rfl, _⟩⟩
  · exact ⟨fun o ho => by simp at ho, by simp⟩
  · exact bres_small h
  · exact ⟨fun o ho => by simp at ho, by simp⟩

end Go.Proofs.Ytabfihicdphjeaa

/- bytes.Clone. -/
namespace Go.Proofs.Ytabfihicdphjeaa
open Go.RowKit
set_option linter.unusedVariables false

theorem Try.eqnil (w : World) (a : Option Addr) (n c : Nat) : (binOp .eql 50 (.slice a n c) (.slice none 0 0)).run Try.prog w = .ok (.bool a.isNone) w := Lib.run_eql_slice_nil w 50 5 a n c 0 0 Try.underlying50

set_option maxHeartbeats 1000000 in
theorem bclone_any (v : Value) (bs : List Int) (w : World) (h : Is .u8 w v bs) (hl : bs.length ≤ 140737488355328) :
    Calls Try.prog 74 #[v] w fun E w' => ∃ v', E = .returned v' ∧ Own .u8 5 w.heap.size w' v' bs ∧ Below w.heap.size w w' := by
  rcases h.2 with ⟨hv, hz⟩ | ⟨ad, cap, hv, h1, h2, hc⟩
  · subst hz hv
    have hq := Try.eqnil w none 0 0
    clear h
    go_enter Try.func74, Try.ntmps74
    go_wp2
    go_ret
    exact ⟨_, rfl, Own.nil _ _ _ _, Below.refl _ _⟩
  · obtain ⟨w1, hw1, sz1, bel1, own1⟩ := own_step .u8 5 w #[] 0 [] rfl rfl (by simp) (by simp)
    have hq := Try.eqnil w (some ad) bs.length cap
    simp only [Option.isNone_some] at hq
    have h1' := h.below bel1
    subst hv
    have X : Hid (∀ ty, ∃ v' w', (Builtin.append_ #[50, 50] ty #[.slice (some ⟨w.heap.size, 0, none⟩) 0 0, .slice (some ad) bs.length cap]).run Try.prog w1 = .ok v' w' ∧ (Own .u8 5 w.heap.size w' v' bs ∧ Below w.heap.size w w')) := hide fun ty => by
      obtain ⟨v', w', hr, ho, hg, _⟩ := run_append_is_at (P := Try.prog) 50 ty .u8 5 w.heap.size 1 Try.underlying50 Try.info5 (by decide) _ [] own1 _ bs h1' (by simp; omega) (by omega)
      exact ⟨v', w', hr, by simpa using ho, bel1.grown hg (by omega) fun k hk => by simp [Value.ownBlock] at hk; omega⟩
    clear own1 h1' h hc
    go_enter Try.func74, Try.ntmps74
    go_wp2_with (at_builtin; refine wpList_append_at rfl (.tmp 5) (.tmp 6) 50 rfl _ _ rfl rfl X.out ?_)
    intro v2 w2 own2 bel2
    go_wp2
    go_ret
    exact ⟨_, rfl, own2, bel2⟩

end Go.Proofs.Ytabfihicdphjeaa
