/- The contracts of the methods of batch's reader. -/
import Derived.Test.YtlfgffldoiedlaaBb
import Derived.Test.YtlfgffldoiedlaaOpc
namespace Go.Proofs.Ytlfgffldoiedlaa
open Go.RowKit
set_option linter.unusedVariables false

theorem Try.elemP : Try.prog.underlying 28 = some (.slice (Try.prog.elem 28)) := by kernel_rfl
theorem Try.sizeP (wx : World) : (sizeOf (Try.prog.elem 28)).run Try.prog wx = .ok 1 wx := by kernel_rfl

theorem wrap64_small (z : Int) (h0 : -9223372036854775808 ≤ z) (h1 : z < 9223372036854775808) : IntKind.i64.wrap z = z := by
  unfold IntKind.wrap
  simp [IntKind.bits, IntKind.signed]
  omega

/-- The error's number. -/
def ei (bad : Bool) : Int := if bad then 5 else 0

/-- A reader in block g: of the bytes bs (they lie where w0 has them), at a place, bad or not. -/
def Brd (w0 w : World) (g : Nat) (vb : Value) (bs : List Int) (a : Nat) (bad : Bool) : Prop :=
  Is .u8 w0 vb bs ∧ w0.heap.size ≤ g ∧ Below w0.heap.size w0 w ∧ w.heap[g]? = some (.cells #[vb, .int .i64 a, .int .i64 (ei bad)] 86 (0, 0)) ∧ a ≤ bs.length

section
variable {w0 w w' : World} {g a : Nat} {vb : Value} {bs : List Int} {bad : Bool}

theorem Brd.lt (h : Brd w0 w g vb bs a bad) : g < w.heap.size := blk_lt h.2.2.2.1
theorem Brd.is (h : Brd w0 w g vb bs a bad) : Is .u8 w vb bs := h.1.below h.2.2.1
theorem Brd.below (h : Brd w0 w g vb bs a bad) (hb : Below w.heap.size w w') : Brd w0 w' g vb bs a bad :=
  ⟨h.1, h.2.1, h.2.2.1.trans (hb.mono h.2.2.1.size), (hb.block g h.lt).trans h.2.2.2.1, h.2.2.2.2⟩
theorem Brd.grown (h : Brd w0 w g vb bs a bad) {row : Nat} (hb : w.grownBy w' (some row)) (hr : w0.heap.size ≤ row) (hne : row ≠ g) : Brd w0 w' g vb bs a bad :=
  ⟨h.1, h.2.1, h.2.2.1.grown hb h.2.2.1.size (fun k hk => by simp at hk; omega), (hb.block g h.lt (by simp; omega)).trans h.2.2.2.1, h.2.2.2.2⟩
theorem Brd.cell0 (h : Brd w0 w g vb bs a bad) : w.cell? ⟨g, 0, none⟩ = some vb := blk_cell h.2.2.2.1 0 rfl
theorem Brd.cell1 (h : Brd w0 w g vb bs a bad) : w.cell? ⟨g, 1, none⟩ = some (.int .i64 a) := blk_cell h.2.2.2.1 1 rfl
theorem Brd.cell2 (h : Brd w0 w g vb bs a bad) : w.cell? ⟨g, 2, none⟩ = some (.int .i64 (ei bad)) := blk_cell h.2.2.2.1 2 rfl
theorem Brd.good (h : Brd w0 w g vb bs a false) : w.cell? ⟨g, 2, none⟩ = some (.int .i64 0) := h.cell2
theorem Brd.evil (h : Brd w0 w g vb bs a true) : w.cell? ⟨g, 2, none⟩ = some (.int .i64 5) := h.cell2
theorem Brd.froz (h : Brd w0 w g vb bs a bad) (j : Nat) : w.frozen? ⟨g, j, none⟩ = false := blk_froz h.2.2.2.1 j
theorem Brd.put1 (h : Brd w0 w g vb bs a bad) (a' : Nat) (ha : a' ≤ bs.length) : Brd w0 (w.setCell ⟨g, 1, none⟩ (.int .i64 a')) g vb bs a' bad :=
  ⟨h.1, h.2.1, h.2.2.1.setCell (p := ⟨g, 1, none⟩) h.2.1 _, by rw [set_cells h.2.2.2.1]; rfl, ha⟩
theorem Brd.put2 (h : Brd w0 w g vb bs a bad) (bad' : Bool) : Brd w0 (w.setCell ⟨g, 2, none⟩ (.int .i64 (ei bad'))) g vb bs a bad' :=
  ⟨h.1, h.2.1, h.2.2.1.setCell (p := ⟨g, 2, none⟩) h.2.1 _, by rw [set_cells h.2.2.2.1]; rfl, h.2.2.2.2⟩
end

theorem small_q (vb : Value) (bs : List Int) (most u i g : Int) (w : World) (hb : Is .u8 w vb bs) (hl : bs.length ≤ 140737488355328) (hm : most < 9223372036854775808) (hm' : -9223372036854775808 ≤ most) (hS : SRes bs most u i g) :
    Calls Try.prog 57 #[vb, .int .i64 most] w fun E w' => E = .returned (.tuple #[.int .i64 u, .int .i64 i, .int .i64 g]) ∧ ∃ m, w' = w.drewN m :=
  (small_any vb bs most u i g w hb hl hm hm' hS).mono (by rintro E w' ⟨rfl, rfl⟩; exact ⟨rfl, 0, rfl⟩)

set_option maxHeartbeats 400000 in
theorem bnum_any (w0 w : World) (g : Nat) (vb : Value) (bs : List Int) (a : Nat) (bad : Bool) (most : Nat) (h : Brd w0 w g vb bs a bad) (hl : bs.length ≤ 140737488355328) (hm : most < 9223372036854775808) :
    Calls Try.prog 71 #[.pointer (some ⟨g, 0, none⟩), .int .i64 most] w fun E w' => ∃ (u a' : Nat) (bad' : Bool), E = .returned (.int .i64 u) ∧ Brd w0 w' g vb bs a' bad' ∧ w.grownBy w' (some g) ∧ Bm.SS bs most a bad u a' bad' := by
  have c0 := h.cell0
  have c1 := h.cell1
  have f1 := h.froz 1
  have f2 := h.froz 2
  have ha := h.2.2.2.2
  cases bad
  · have c2 := h.good
    obtain ⟨vs, hsl, isl⟩ := h.is.slice_l Try.elemP Try.sizeP a ha
    obtain ⟨u, i, e, hS⟩ := sres_is (bs.drop a) most
    have hdl : (bs.drop a).length = bs.length - a := by rw [List.length_drop]
    rcases hS with ⟨hR, h1, h2, he⟩ | ⟨hu, hi, he, x, n, f, hR, hcase⟩
    · have hbd := Vm.res_bounds hR
      obtain ⟨un, rfl⟩ : ∃ un : Nat, u = un := ⟨u.toNat, by omega⟩
      obtain ⟨n, rfl⟩ : ∃ n : Nat, i = n := ⟨i.toNat, by omega⟩
      have hG : Bm.SS bs most a false un (a + n) false := by
        rcases hR with ⟨x, hx, hp, h3, h4, _⟩ | ⟨_, _, _, h5⟩
        · have : x = un := by omega
          subst this
          exact .inr (.inr ⟨rfl, rfl, by omega, hp, by omega⟩)
        · simp at h5
      have hS : SRes (bs.drop a) most un n 0 := .inl ⟨hR, h1, h2, rfl⟩
      have HG := hide hG
      have HS := hide hS
      have HH := hide h
      have hn1 : a + n ≤ bs.length := by omega
      have hn2 : n ≤ 10 := by omega
      clear hS hG hR hbd h he h1 h2
      go_enter Try.func71, Try.ntmps71
      go_wp2_with fail
      go_quiet ((go_at_call 57; refine Calls.quiet_of (small_q _ (bs.drop a) most un n 0 _ (isl.drewN _) (by omega) (by omega) (by omega) HS.out)))
      have r1 := HH.out.below (below_drewN (Below.refl _ _) nq)
      have R3 := hide ((r1.put1 (a + n) hn1).put2 false)
      clear r1 isl hsl
      go_wp2
      go_ret
      exact ⟨un, a + n, false, rfl, R3.out, grown_trans (grown_trans (grown_drewN _ _ _) (grown_setCell _ _ _)) (grown_setCell _ _ _), HG.out⟩
    · have hG : Bm.SS bs most a false 0 a true := by
        refine .inr (.inl ⟨rfl, rfl, rfl, rfl, fun y hy hp => ?_⟩)
        have := Vm.res_good hR (u := y) (by omega) hp
        omega
      have hS : SRes (bs.drop a) most 0 0 5 := .inr ⟨rfl, rfl, rfl, x, n, f, hR, hcase⟩
      have HG := hide hG
      have HS := hide hS
      have HH := hide h
      clear hS hG hR h he hcase hu hi
      go_enter Try.func71, Try.ntmps71
      go_wp2_with fail
      go_quiet ((go_at_call 57; refine Calls.quiet_of (small_q _ (bs.drop a) most 0 0 5 _ (isl.drewN _) (by omega) (by omega) (by omega) HS.out)))
      have r1 := HH.out.below (below_drewN (Below.refl _ _) nq)
      have R3 := hide ((r1.put1 a ha).put2 true)
      clear r1 isl hsl
      go_wp2
      go_ret
      exact ⟨0, a, true, rfl, R3.out, grown_trans (grown_trans (grown_drewN _ _ _) (grown_setCell _ _ _)) (grown_setCell _ _ _), HG.out⟩
  · have c2 := h.evil
    have HH := hide h
    clear h
    go_enter Try.func71, Try.ntmps71
    go_wp2
    go_ret
    exact ⟨0, a, true, rfl, HH.out, World.grownBy.refl _ _, .inl ⟨rfl, rfl, rfl, rfl⟩⟩

set_option maxHeartbeats 400000 in
theorem btext_any (w0 w : World) (g : Nat) (vb : Value) (bs : List Int) (a : Nat) (bad : Bool) (n : Nat) (h : Brd w0 w g vb bs a bad) (hl : bs.length ≤ 140737488355328) (hm : n < 4611686018427387904) :
    Calls Try.prog 77 #[.pointer (some ⟨g, 0, none⟩), .int .i64 n] w fun E w' => ∃ (s : ByteArray) (zs : List Int) (a' : Nat) (bad' : Bool), E = .returned (.string s) ∧ s.data.toList = Om.byts zs ∧ Brd w0 w' g vb bs a' bad' ∧ w.grownBy w' (some g) ∧ Bm.BS bs n a bad zs a' bad' := by
  have c0 := h.cell0
  have c1 := h.cell1
  have f1 := h.froz 1
  have f2 := h.froz 2
  have ha := h.2.2.2.2
  have hlen := h.is.len_run Try.elemP
  cases bad
  · have c2 := h.good
    by_cases hn : n ≤ bs.length - a
    · obtain ⟨vs, hsl, isl⟩ := h.is.slice_lh Try.elemP Try.sizeP a (a + n) (by omega) (by omega)
      rw [show a + n - a = n by omega] at isl
      have hsl2 : ∀ wx, (Instr.slice 28 vb (some (.int .i64 (a : Int))) (some (.int .i64 ((a : Int) + (n : Int)))) none).run Try.prog wx = .ok vs wx := by simpa using hsl
      have hwr : IntKind.i64.wrap ((a : Int) + (n : Int)) = (a : Int) + n := wrap64_small _ (by omega) (by omega)
      have hconv := fun m => (isl.drewN m).conv Try.underlying28 Try.underlying5 Try.underlying9
      clear hsl
      have hge : ¬ (bs.length : Int) - a < n := by omega
      have HH := hide h
      clear h
      go_enter Try.func77, Try.ntmps77
      go_wp2_with fail
      go_quiet (fail)
      go_wp2_with fail
      generalize nq = n1
      have hconv2 := fun m => hconv (n1 + m)
      go_quiet (fail)
      have r1 := HH.out.below (below_drewN (Below.refl _ _) (n1 + nq))
      have k1 := r1.cell1
      have g1 := r1.froz 1
      have R1 := hide r1
      clear r1 hconv hconv2 isl hsl2
      go_wp2
      go_ret
      exact ⟨_, (bs.drop a).take n, a + n, false, rfl, by simp, R1.out.put1 (a + n) (by omega), grown_trans (grown_drewN _ _ _) (grown_setCell _ _ _), .inr ⟨rfl, hn, rfl, rfl, rfl⟩⟩
    · have hge : (bs.length : Int) - a < n := by omega
      have HH := hide h
      clear h
      go_enter Try.func77, Try.ntmps77
      go_wp2_with fail
      go_quiet (fail)
      go_wp2
      go_ret
      exact ⟨_, [], a, true, rfl, rfl, (HH.out.below (below_drewN (Below.refl _ _) nq)).put2 true, grown_trans (grown_drewN _ _ _) (grown_setCell _ _ _), .inl ⟨.inr (by omega), rfl, rfl, rfl⟩⟩
  · have c2 := h.evil
    have HH := hide h
    clear h
    go_enter Try.func77, Try.ntmps77
    go_wp2
    go_ret
    exact ⟨_, [], a, true, rfl, rfl, HH.out, World.grownBy.refl _ _, .inl ⟨.inl rfl, rfl, rfl, rfl⟩⟩

theorem Try.enters77 : ∀ args w, (callFunc 77 args).run Try.prog w = .ok (.enter 77 args) w := enters_of Try.func77 (by kernel_rfl) rfl

theorem cat_data (a b : ByteArray) : (a ++ b).data.toList = a.data.toList ++ b.data.toList := by simp

theorem cat_fits {bs zs : List Int} {n sh a a' : Nat} {bad bad' : Bool} {s : ByteArray} (hs : s.data.toList = Om.byts zs) (h : Bm.BS bs n a bad zs a' bad') (hn : n ≤ 16 - sh) (hsh : sh ≤ 16) : ¬ 9223372036854775807 < sh + s.size := by
  have := Bm.bs_le h
  have e := congrArg List.length hs
  rw [Om.byts_len, ← Lib.size_eq] at e
  omega

set_option maxHeartbeats 1000000 in
theorem bkey_any (w0 w : World) (g : Nat) (vb : Value) (bs : List Int) (a : Nat) (bad : Bool) (ah : ByteArray) (h : Brd w0 w g vb bs a bad) (hl : bs.length ≤ 140737488355328) (hah : ah.size ≤ 16) :
    Calls Try.prog 76 #[.pointer (some ⟨g, 0, none⟩), .string ah] w fun E w' => ∃ (k : ByteArray) (a' : Nat) (bad' : Bool), E = .returned (.string k) ∧ Brd w0 w' g vb bs a' bad' ∧ w.grownBy w' (some g) ∧ Bm.KS bs a bad ah.data.toList k.data.toList a' bad' := by
  have hal : ah.data.toList.length = ah.size := (Lib.size_eq ah).symm
  go_enter Try.func76, Try.ntmps76
  go_wp2_with fail
  refine (bnum_any w0 w g vb bs a bad ah.size h hl (by omega)).mono ?_
  rintro E w1 ⟨sh, a1, bad1, rfl, r1, gr1, s1⟩
  have hsh := Bm.ss_le s1
  have hsub : (16 : Int) - sh = ((16 - sh : Nat) : Int) := by omega
  have S1 := hide s1
  clear s1 h
  go_wp2_with fail
  refine (bnum_any w0 w1 g vb bs a1 bad1 (16 - sh) r1 hl (by omega)).mono ?_
  rintro E w2 ⟨n, a2, bad2, rfl, r2, gr2, s2⟩
  have hn := Bm.ss_le s2
  have S2 := hide s2
  have R2 := hide r2
  clear s2 r1 r2
  have X : Hid (∀ m, Calls Try.prog 77 #[.pointer (some ⟨g, 0, none⟩), .int .i64 n] (w2.drewN m) fun E w' => ∃ v, E = .returned v ∧ ∃ (s : ByteArray) (zs : List Int) (a' : Nat) (bad' : Bool), v = .string s ∧ s.data.toList = Om.byts zs ∧ Brd w0 w' g vb bs a' bad' ∧ (w2.drewN m).grownBy w' (some g) ∧ Bm.BS bs n a2 bad2 zs a' bad') :=
    hide fun m => (btext_any w0 (w2.drewN m) g vb bs a2 bad2 n (R2.out.below (below_drewN (Below.refl _ _) m)) hl (by omega)).mono (by rintro E w' ⟨s, zs, a', bad', rfl, h⟩; exact ⟨_, rfl, s, zs, a', bad', rfl, h⟩)
  go_wp2_with fail
  go_region_law (refine call_step rfl 77 #[.tmp 19, .tmp 20] #[89, 3] rfl Try.enters77 #[.pointer (some ⟨g, 0, none⟩), .int .i64 n] (by simp [Act.eval, Act.put]) (X.out _) ?_; rintro vv w3 ⟨s, zs, a3, bad3, rfl, hs, r3, gr3, s3⟩; have hss := cat_fits hs s3 hn (by omega))
  all_goals
    have hsz : s.size ≤ 16 := by
      have := Bm.bs_le s3
      have e := congrArg List.length hs
      rw [Om.byts_len, ← Lib.size_eq] at e
      omega
    have hdat : (ah.extract 0 sh ++ s).data.toList = ah.data.toList.take sh ++ Om.byts zs := by rw [← hs]; simp
    have hksz : (ah.extract 0 sh ++ s).size ≤ 32 := by rw [Lib.size_eq, hdat, List.length_append, ← hs, ← Lib.size_eq, List.length_take]; omega
    have gr : w.grownBy w3 (some g) := grown_trans gr1 (grown_trans gr2 (grown_trans (grown_drewN _ 1 _) gr3))
    generalize ah.extract 0 sh ++ s = K at *
    rw [← hal] at S1
    have HK : ∀ bad', bad' = (bad3 || decide (Bm.com ah.data.toList K.data.toList ≠ sh)) → Bm.KS bs a bad ah.data.toList K.data.toList a3 bad' := fun bad' e => ⟨sh, n, zs, a1, bad1, a2, bad2, bad3, S1.out, S2.out, s3, hdat, e⟩
    have HK := hide HK
    clear hdat hs s3 gr1 gr2 gr3 X hss
    have f2 := r3.froz 2
    cases bad3
    · have c2 := r3.good
      have R3 := hide r3
      clear r3
      go_wp2_with fail
      refine (shared_any ah K _ (by omega) (by omega)).mono ?_
      rintro E w4 ⟨rfl, bel4⟩
      have r4 := R3.out.below bel4
      have f4 := r4.froz 2
      have d2 := r4.good
      have R4 := hide r4
      have gr4 : w.grownBy w4 (some g) := grown_trans gr (grown_of_below bel4 _)
      clear r4 R3 bel4 gr c2 f2
      by_cases hc : Bm.com ah.data.toList K.data.toList = sh
      · have hb : ((Bm.com ah.data.toList K.data.toList : Int) != (sh : Int)) = false := by rw [hc]; simp
        have HK2 := hide (HK.out false (by simp [hc]))
        clear hc
        go_wp2
        go_ret
        exact ⟨K, a3, false, rfl, R4.out, gr4, HK2.out⟩
      · have hb : ((Bm.com ah.data.toList K.data.toList : Int) != (sh : Int)) = true := by simp; omega
        have HK2 := hide (HK.out true (by simp [hc]))
        clear hc
        go_wp2
        go_ret
        exact ⟨K, a3, true, rfl, R4.out.put2 true, grown_trans gr4 (grown_setCell _ _ _), HK2.out⟩
    · have c2 := r3.evil
      have R3 := hide r3
      clear r3
      go_wp2
      go_ret
      exact ⟨K, a3, true, rfl, R3.out, gr, HK.out true (by simp)⟩

end Go.Proofs.Ytlfgffldoiedlaa
