/- Texts of one layer, one behind the other. -/
import Derived.Test.YtkpnkknolobioaaGreatG3
import Derived.Laws.BytesArg
import Derived.Test.YtkpnkknolobioaaGreatG4
import Derived.Test.YtkpnkknolobioaaGreatG5
import Derived.Test.YtkpnkknolobioaaGreatG1
/- The contracts of op's readCounted and Read. -/
namespace Go.Proofs.YtkpnkknolobioaaGreat
open Go.RowKit
set_option linter.unusedVariables false

/-- 'string(b)'. -/
theorem Is.conv {w : World} {v : Value} {zs : List Int} (h : Is .u8 w v zs) {P : Program} {src e dst : TypeId} (hs : P.underlying src = some (.slice e)) (he : P.underlying e = some (.int .u8)) (hd : P.underlying dst = some .string) :
    (convert src dst v).run P w = .ok (.string ⟨(Om.byts zs).toArray⟩) w := by
  by_cases hz : 0 < zs.length
  · obtain ⟨b, o, c, rfl, _, _, _, hc⟩ := h.full hz
    exact run_convert_bytes_arg w src e hs he b o zs.length c zs rfl hc dst hd
  · have : zs = [] := List.eq_nil_of_length_eq_zero (by omega)
    subst this
    obtain ⟨ao, c, rfl⟩ := h.bare
    cases ao with
    | none => exact run_convert_bytes_nil w src e hs he 0 c dst hd
    | some ad =>
      rw [run_convert_bytes_string w src dst e _ 0 c hs he hd, run_bytesToString w ad 0 c [] (by have := run_loadCells_list (P := P) w ad [] (by simp); simpa using this)]
      rfl

theorem Is.bytes {w : World} {v : Value} {zs : List Int} (h : Is .u8 w v zs) : ∀ z ∈ zs, 0 ≤ z ∧ z < 256 := by
  intro z hz
  obtain ⟨i, hi, rfl⟩ := List.getElem_of_mem hz
  have := h.byte i
  simpa [List.getD, hi] using this

theorem cres_bad {bs : List Int} {most : Nat} {u i g : Int} (hS : SRes bs most u i g) (hg : g ≠ 0) (hm : most ≤ 64) : ∀ t : List UInt8, t.length ≤ most → ¬ Om.cnt t <+: bs := by
  intro t ht hp
  have hp1 : Vm.enc t.length <+: bs := (List.prefix_append _ _).trans hp
  rcases hS with ⟨_, _, _, h⟩ | ⟨_, _, _, x, n, e, hR, hc⟩
  · exact hg h
  · have := Vm.res_good hR (u := t.length) (by omega) hp1
    omega

theorem cres_short {bs : List Int} {most : Nat} {u i : Int} (hR : Vm.Res bs u i 0) (hs : (bs.length : Int) - i < u) : ∀ t : List UInt8, t.length ≤ most → most ≤ 64 → ¬ Om.cnt t <+: bs := by
  intro t ht hm hp
  have hp1 : Vm.enc t.length <+: bs := (List.prefix_append _ _).trans hp
  have := Vm.res_good hR (u := t.length) (by omega) hp1
  have h2 := hp.length_le
  rw [Om.cnt_len] at h2
  omega

theorem cres_good {bs : List Int} {most u n : Nat} (hb : ∀ z ∈ bs, 0 ≤ z ∧ z < 256) (hR : Vm.Res bs u n 0) (hu : u ≤ most) (hs : n + u ≤ bs.length) :
    Om.CRes bs most (Om.byts ((bs.drop n).take u)) (n + u) 0 := by
  have hl : (Om.byts ((bs.drop n).take u)).length = u := by rw [Om.byts_len, List.length_take, List.length_drop]; omega
  rcases hR with ⟨x, _, hp, h1, h2, _⟩ | ⟨_, _, _, h⟩
  · have hx : x = u := by omega
    have hn : n = Vm.sz u := by rw [hx] at h2; omega
    subst hx
    refine .inl ⟨rfl, by rw [hl]; exact hu, ?_, ?_⟩
    · unfold Om.cnt
      rw [hl, Om.ints_byts (fun z hz => hb z (List.mem_of_mem_drop (List.mem_of_mem_take hz)))]
      obtain ⟨r, hr⟩ := hp
      have hln : (Vm.enc x).length = n := hn.symm
      have : bs.drop n = r := by rw [← hr, ← hln]; simp
      rw [this, ← hr]
      exact (List.prefix_append_right_inj _).2 (List.take_prefix _ _)
    · rw [Om.cnt_len, hl, hn]
  · simp at h

theorem empty_of {s : ByteArray} (h : s.data.toList = []) : s = ⟨#[]⟩ := by
  obtain ⟨⟨l⟩⟩ := s
  simp at h
  rw [h]

end Go.Proofs.YtkpnkknolobioaaGreat

/- The contracts of the methods of batch's reader. -/
namespace Go.Proofs.YtkpnkknolobioaaGreat
open Go.RowKit
set_option linter.unusedVariables false
set_option maxRecDepth 100000


theorem wrap64_small (z : Int) (h0 : -9223372036854775808 ≤ z) (h1 : z < 9223372036854775808) : IntKind.i64.wrap z = z := by
  unfold IntKind.wrap
  simp [IntKind.bits, IntKind.signed]
  omega

/-- The error's number. -/
def ei (bad : Bool) : Int := if bad then 5 else 0

/-- A reader in block g: of the bytes bs (they lie where w0 has them), at a place, bad or not. -/
def Brd (w0 w : World) (g : Nat) (vb : Value) (bs : List Int) (a : Nat) (bad : Bool) : Prop :=
  Is .u8 w0 vb bs ∧ w0.heap.size ≤ g ∧ Below w0.heap.size w0 w ∧ w.heap[g]? = some (.cells #[vb, .int .i64 a, .int .i64 (ei bad)] 127 (0, 0)) ∧ a ≤ bs.length

section
variable {w0 w w' : World} {g a : Nat} {vb : Value} {bs : List Int} {bad : Bool}

theorem Brd.lt (h : Brd w0 w g vb bs a bad) : g < w.heap.size := blk_lt h.2.2.2.1
theorem Brd.is (h : Brd w0 w g vb bs a bad) : Is .u8 w vb bs := h.1.below h.2.2.1
theorem Brd.below (h : Brd w0 w g vb bs a bad) (hb : Below w.heap.size w w') : Brd w0 w' g vb bs a bad :=
  ⟨h.1, h.2.1, h.2.2.1.trans (hb.mono h.2.2.1.size), (hb.block g h.lt).trans h.2.2.2.1, h.2.2.2.2⟩
theorem Brd.grown (h : Brd w0 w g vb bs a bad) {row : Nat} (hb : w.grownBy w' (some row)) (hr : w0.heap.size ≤ row) (hne : row ≠ g) : Brd w0 w' g vb bs a bad :=
  ⟨h.1, h.2.1, h.2.2.1.grown hb h.2.2.1.size (fun k hk => by simp at hk; omega), (hb.block g h.lt (by simp; omega)).trans h.2.2.2.1, h.2.2.2.2⟩
theorem Brd.cell0 (h : Brd w0 w g vb bs a bad) : w.cell? ⟨g, 0, none⟩ = some vb := blk_cell h.2.2.2.1 0 rfl
theorem Brd.cell1 (h : Brd w0 w g vb bs a bad) : w.cell? ⟨g, 1, none⟩ = some (.int .i64 a) := blk_cell h.2.2.2.1 1 rfl
theorem Brd.cell2 (h : Brd w0 w g vb bs a bad) : w.cell? ⟨g, 2, none⟩ = some (.int .i64 (ei bad)) := blk_cell h.2.2.2.1 2 rfl
theorem Brd.good (h : Brd w0 w g vb bs a false) : w.cell? ⟨g, 2, none⟩ = some (.int .i64 0) := h.cell2
theorem Brd.evil (h : Brd w0 w g vb bs a true) : w.cell? ⟨g, 2, none⟩ = some (.int .i64 5) := h.cell2
theorem Brd.froz (h : Brd w0 w g vb bs a bad) (j : Nat) : w.frozen? ⟨g, j, none⟩ = false := blk_froz h.2.2.2.1 j
theorem Brd.put1 (h : Brd w0 w g vb bs a bad) (a' : Nat) (ha : a' ≤ bs.length) : Brd w0 (w.setCell ⟨g, 1, none⟩ (.int .i64 a')) g vb bs a' bad :=
  ⟨h.1, h.2.1, h.2.2.1.setCell (p := ⟨g, 1, none⟩) h.2.1 _, by rw [set_cells h.2.2.2.1]; rfl, ha⟩
theorem Brd.put2 (h : Brd w0 w g vb bs a bad) (bad' : Bool) : Brd w0 (w.setCell ⟨g, 2, none⟩ (.int .i64 (ei bad'))) g vb bs a bad' :=
  ⟨h.1, h.2.1, h.2.2.1.setCell (p := ⟨g, 2, none⟩) h.2.1 _, by rw [set_cells h.2.2.2.1]; rfl, h.2.2.2.2⟩

end

theorem small_q (vb : Value) (bs : List Int) (most u i g : Int) (w : World) (hb : Is .u8 w vb bs) (hl : bs.length ≤ 140737488355328) (hm : most < 9223372036854775808) (hm' : -9223372036854775808 ≤ most) (hS : SRes bs most u i g) :
    Calls Tryz.prog 95 #[vb, .int .i64 most] w fun E w' => E = .returned (.tuple #[.int .i64 u, .int .i64 i, .int .i64 g]) ∧ ∃ m, w' = w.drewN m :=
  (small_any vb bs most u i g w hb (by omega) hm hm' hS).mono (by rintro E w' ⟨rfl, rfl⟩; exact ⟨rfl, 0, rfl⟩)

set_option maxHeartbeats 400000 in
theorem bnum_any (w0 w : World) (g : Nat) (vb : Value) (bs : List Int) (a : Nat) (bad : Bool) (most : Nat) (h : Brd w0 w g vb bs a bad) (hl : bs.length ≤ 140737488355328) (hm : most < 9223372036854775808) :
    Calls Tryz.prog 110 #[.pointer (some ⟨g, 0, none⟩), .int .i64 most] w fun E w' => ∃ (u a' : Nat) (bad' : Bool), E = .returned (.int .i64 u) ∧ Brd w0 w' g vb bs a' bad' ∧ w.grownBy w' (some g) ∧ Bm.SS bs most a bad u a' bad' := by
  have c0 := h.cell0
  have c1 := h.cell1
  have f1 := h.froz 1
  have f2 := h.froz 2
  have ha := h.2.2.2.2
  cases bad
  · have c2 := h.good
    obtain ⟨vs, hsl, isl⟩ := h.is.slice_l Tryz.elemP Tryz.sizeP a ha
    obtain ⟨u, i, e, hS⟩ := sres_is (bs.drop a) most
    have hdl : (bs.drop a).length = bs.length - a := by rw [List.length_drop]
    rcases hS with ⟨hR, h1, h2, he⟩ | ⟨hu, hi, he, x, n, f, hR, hcase⟩
    · have hbd := Vm.res_bounds hR
      obtain ⟨un, rfl⟩ : ∃ un : Nat, u = un := ⟨u.toNat, by omega⟩
      obtain ⟨n, rfl⟩ : ∃ n : Nat, i = n := ⟨i.toNat, by omega⟩
      have hG : Bm.SS bs most a false un (a + n) false := by
        rcases hR with ⟨x, hx, hp, h3, h4, _⟩ | ⟨_, _, _, h5⟩
        · have : x = un := by omega
          subst this
          exact .inr (.inr ⟨rfl, rfl, by omega, hp, by omega⟩)
        · simp at h5
      have hS : SRes (bs.drop a) most un n 0 := .inl ⟨hR, h1, h2, rfl⟩
      have HG := hide hG
      have HS := hide hS
      have HH := hide h
      have hn1 : a + n ≤ bs.length := by omega
      have hn2 : n ≤ 10 := by omega
      clear hS hG hR hbd h he h1 h2
      go_enter Tryz.func110, Tryz.ntmps110
      go_wp2_with fail
      go_quiet ((go_at_call 95; refine Calls.quiet_of (small_q _ (bs.drop a) most un n 0 _ (isl.drewN _) (by omega) (by omega) (by omega) HS.out)))
      have r1 := HH.out.below (below_drewN (Below.refl _ _) nq)
      have R3 := hide ((r1.put1 (a + n) hn1).put2 false)
      clear r1 isl hsl
      go_wp2
      go_ret
      exact ⟨un, a + n, false, rfl, R3.out, grown_trans (grown_trans (grown_drewN _ _ _) (grown_setCell _ _ _)) (grown_setCell _ _ _), HG.out⟩
    · have hG : Bm.SS bs most a false 0 a true := by
        refine .inr (.inl ⟨rfl, rfl, rfl, rfl, fun y hy hp => ?_⟩)
        have := Vm.res_good hR (u := y) (by omega) hp
        omega
      have hS : SRes (bs.drop a) most 0 0 5 := .inr ⟨rfl, rfl, rfl, x, n, f, hR, hcase⟩
      have HG := hide hG
      have HS := hide hS
      have HH := hide h
      clear hS hG hR h he hcase hu hi
      go_enter Tryz.func110, Tryz.ntmps110
      go_wp2_with fail
      go_quiet ((go_at_call 95; refine Calls.quiet_of (small_q _ (bs.drop a) most 0 0 5 _ (isl.drewN _) (by omega) (by omega) (by omega) HS.out)))
      have r1 := HH.out.below (below_drewN (Below.refl _ _) nq)
      have R3 := hide ((r1.put1 a ha).put2 true)
      clear r1 isl hsl
      go_wp2
      go_ret
      exact ⟨0, a, true, rfl, R3.out, grown_trans (grown_trans (grown_drewN _ _ _) (grown_setCell _ _ _)) (grown_setCell _ _ _), HG.out⟩
  · have c2 := h.evil
    have HH := hide h
    clear h
    go_enter Tryz.func110, Tryz.ntmps110
    go_wp2
    go_ret
    exact ⟨0, a, true, rfl, HH.out, World.grownBy.refl _ _, .inl ⟨rfl, rfl, rfl, rfl⟩⟩

set_option maxHeartbeats 400000 in
theorem btext_any (w0 w : World) (g : Nat) (vb : Value) (bs : List Int) (a : Nat) (bad : Bool) (n : Nat) (h : Brd w0 w g vb bs a bad) (hl : bs.length ≤ 140737488355328) (hm : n < 4611686018427387904) :
    Calls Tryz.prog 113 #[.pointer (some ⟨g, 0, none⟩), .int .i64 n] w fun E w' => ∃ (s : ByteArray) (zs : List Int) (a' : Nat) (bad' : Bool), E = .returned (.string s) ∧ s.data.toList = Om.byts zs ∧ Brd w0 w' g vb bs a' bad' ∧ w.grownBy w' (some g) ∧ Bm.BS bs n a bad zs a' bad' := by
  have c0 := h.cell0
  have c1 := h.cell1
  have f1 := h.froz 1
  have f2 := h.froz 2
  have ha := h.2.2.2.2
  have hlen := h.is.len_run Tryz.elemP
  cases bad
  · have c2 := h.good
    by_cases hn : n ≤ bs.length - a
    · obtain ⟨vs, hsl, isl⟩ := h.is.slice_lh Tryz.elemP Tryz.sizeP a (a + n) (by omega) (by omega)
      rw [show a + n - a = n by omega] at isl
      have hsl2 : ∀ wx, (Instr.slice 22 vb (some (.int .i64 (a : Int))) (some (.int .i64 ((a : Int) + (n : Int)))) none).run Tryz.prog wx = .ok vs wx := by simpa using hsl
      have hwr : IntKind.i64.wrap ((a : Int) + (n : Int)) = (a : Int) + n := wrap64_small _ (by omega) (by omega)
      have hconv := fun m => (isl.drewN m).conv Tryz.underlying22 Tryz.underlying5 Tryz.underlying9
      clear hsl
      have hge : ¬ (bs.length : Int) - a < n := by omega
      have HH := hide h
      clear h
      go_enter Tryz.func113, Tryz.ntmps113
      go_wp2_with fail
      go_quiet (fail)
      go_wp2_with fail
      generalize nq = n1
      have hconv2 := fun m => hconv (n1 + m)
      go_quiet (fail)
      have r1 := HH.out.below (below_drewN (Below.refl _ _) (n1 + nq))
      have k1 := r1.cell1
      have g1 := r1.froz 1
      have R1 := hide r1
      clear r1 hconv hconv2 isl hsl2
      go_wp2
      go_ret
      exact ⟨_, (bs.drop a).take n, a + n, false, rfl, by simp, R1.out.put1 (a + n) (by omega), grown_trans (grown_drewN _ _ _) (grown_setCell _ _ _), .inr ⟨rfl, hn, rfl, rfl, rfl⟩⟩
    · have hge : (bs.length : Int) - a < n := by omega
      have HH := hide h
      clear h
      go_enter Tryz.func113, Tryz.ntmps113
      go_wp2_with fail
      go_quiet (fail)
      go_wp2
      go_ret
      exact ⟨_, [], a, true, rfl, rfl, (HH.out.below (below_drewN (Below.refl _ _) nq)).put2 true, grown_trans (grown_drewN _ _ _) (grown_setCell _ _ _), .inl ⟨.inr (by omega), rfl, rfl, rfl⟩⟩
  · have c2 := h.evil
    have HH := hide h
    clear h
    go_enter Tryz.func113, Tryz.ntmps113
    go_wp2
    go_ret
    exact ⟨_, [], a, true, rfl, rfl, HH.out, World.grownBy.refl _ _, .inl ⟨.inl rfl, rfl, rfl, rfl⟩⟩

theorem Tryz.enters113 : ∀ args w, (callFunc 113 args).run Tryz.prog w = .ok (.enter 113 args) w := enters_of Tryz.func113 (by kernel_rfl) rfl

theorem cat_data (a b : ByteArray) : (a ++ b).data.toList = a.data.toList ++ b.data.toList := by simp

theorem cat_fits {bs zs : List Int} {n sh a a' : Nat} {bad bad' : Bool} {s : ByteArray} (hs : s.data.toList = Om.byts zs) (h : Bm.BS bs n a bad zs a' bad') (hn : n ≤ 16 - sh) (hsh : sh ≤ 16) : ¬ 9223372036854775807 < sh + s.size := by
  have := Bm.bs_le h
  have e := congrArg List.length hs
  rw [Om.byts_len, ← Lib.size_eq] at e
  omega

set_option maxHeartbeats 1000000 in
theorem bkey_any (w0 w : World) (g : Nat) (vb : Value) (bs : List Int) (a : Nat) (bad : Bool) (ah : ByteArray) (h : Brd w0 w g vb bs a bad) (hl : bs.length ≤ 140737488355328) (hah : ah.size ≤ 16) :
    Calls Tryz.prog 112 #[.pointer (some ⟨g, 0, none⟩), .string ah] w fun E w' => ∃ (k : ByteArray) (a' : Nat) (bad' : Bool), E = .returned (.string k) ∧ Brd w0 w' g vb bs a' bad' ∧ w.grownBy w' (some g) ∧ Bm.KS bs a bad ah.data.toList k.data.toList a' bad' := by
  have hal : ah.data.toList.length = ah.size := (Lib.size_eq ah).symm
  go_enter Tryz.func112, Tryz.ntmps112
  go_wp2_with fail
  refine (bnum_any w0 w g vb bs a bad ah.size h hl (by omega)).mono ?_
  rintro E w1 ⟨sh, a1, bad1, rfl, r1, gr1, s1⟩
  have hsh := Bm.ss_le s1
  have hsub : (16 : Int) - sh = ((16 - sh : Nat) : Int) := by omega
  have S1 := hide s1
  clear s1 h
  go_wp2_with fail
  refine (bnum_any w0 w1 g vb bs a1 bad1 (16 - sh) r1 hl (by omega)).mono ?_
  rintro E w2 ⟨n, a2, bad2, rfl, r2, gr2, s2⟩
  have hn := Bm.ss_le s2
  have S2 := hide s2
  have R2 := hide r2
  clear s2 r1 r2
  have X : Hid (∀ m, Calls Tryz.prog 113 #[.pointer (some ⟨g, 0, none⟩), .int .i64 n] (w2.drewN m) fun E w' => ∃ v, E = .returned v ∧ ∃ (s : ByteArray) (zs : List Int) (a' : Nat) (bad' : Bool), v = .string s ∧ s.data.toList = Om.byts zs ∧ Brd w0 w' g vb bs a' bad' ∧ (w2.drewN m).grownBy w' (some g) ∧ Bm.BS bs n a2 bad2 zs a' bad') :=
    hide fun m => (btext_any w0 (w2.drewN m) g vb bs a2 bad2 n (R2.out.below (below_drewN (Below.refl _ _) m)) hl (by omega)).mono (by rintro E w' ⟨s, zs, a', bad', rfl, h⟩; exact ⟨_, rfl, s, zs, a', bad', rfl, h⟩)
  go_wp2_with fail
  go_region_law (refine call_step rfl 113 #[.tmp 19, .tmp 20] #[130, 3] rfl Tryz.enters113 #[.pointer (some ⟨g, 0, none⟩), .int .i64 n] (by simp [Act.eval, Act.put]) (X.out _) ?_; rintro vv w3 ⟨s, zs, a3, bad3, rfl, hs, r3, gr3, s3⟩; have hss := cat_fits hs s3 hn (by omega))
  all_goals
    have hsz : s.size ≤ 16 := by
      have := Bm.bs_le s3
      have e := congrArg List.length hs
      rw [Om.byts_len, ← Lib.size_eq] at e
      omega
    have hdat : (ah.extract 0 sh ++ s).data.toList = ah.data.toList.take sh ++ Om.byts zs := by rw [← hs]; simp
    have hksz : (ah.extract 0 sh ++ s).size ≤ 32 := by rw [Lib.size_eq, hdat, List.length_append, ← hs, ← Lib.size_eq, List.length_take]; omega
    have gr : w.grownBy w3 (some g) := grown_trans gr1 (grown_trans gr2 (grown_trans (grown_drewN _ 1 _) gr3))
    generalize ah.extract 0 sh ++ s = K at *
    rw [← hal] at S1
    have HK : ∀ bad', bad' = (bad3 || decide (Bm.com ah.data.toList K.data.toList ≠ sh)) → Bm.KS bs a bad ah.data.toList K.data.toList a3 bad' := fun bad' e => ⟨sh, n, zs, a1, bad1, a2, bad2, bad3, S1.out, S2.out, s3, hdat, e⟩
    have HK := hide HK
    clear hdat hs s3 gr1 gr2 gr3 X hss
    have f2 := r3.froz 2
    cases bad3
    · have c2 := r3.good
      have R3 := hide r3
      clear r3
      go_wp2_with fail
      refine (shared_any ah K _ (by omega) (by omega)).mono ?_
      rintro E w4 ⟨rfl, bel4⟩
      have r4 := R3.out.below bel4
      have f4 := r4.froz 2
      have d2 := r4.good
      have R4 := hide r4
      have gr4 : w.grownBy w4 (some g) := grown_trans gr (grown_of_below bel4 _)
      clear r4 R3 bel4 gr c2 f2
      by_cases hc : Bm.com ah.data.toList K.data.toList = sh
      · have hb : ((Bm.com ah.data.toList K.data.toList : Int) != (sh : Int)) = false := by rw [hc]; simp
        have HK2 := hide (HK.out false (by simp [hc]))
        clear hc
        go_wp2
        go_ret
        exact ⟨K, a3, false, rfl, R4.out, gr4, HK2.out⟩
      · have hb : ((Bm.com ah.data.toList K.data.toList : Int) != (sh : Int)) = true := by simp; omega
        have HK2 := hide (HK.out true (by simp [hc]))
        clear hc
        go_wp2
        go_ret
        exact ⟨K, a3, true, rfl, R4.out.put2 true, grown_trans gr4 (grown_setCell _ _ _), HK2.out⟩
    · have c2 := r3.evil
      have R3 := hide r3
      clear r3
      go_wp2
      go_ret
      exact ⟨K, a3, true, rfl, R3.out, gr, HK.out true (by simp)⟩

end Go.Proofs.YtkpnkknolobioaaGreat

/- The contracts of batch's reader's op and of Read. -/
namespace Go.Proofs.YtkpnkknolobioaaGreat
open Go.RowKit
set_option linter.unusedVariables false

set_option maxHeartbeats 1000000 in
theorem bop_any (w0 w : World) (g : Nat) (vb : Value) (bs : List Int) (a : Nat) (bad : Bool) (ah : ByteArray) (h : Brd w0 w g vb bs a bad) (hl : bs.length ≤ 140737488355328) (hah : ah.size ≤ 16) :
    Calls Tryz.prog 111 #[.pointer (some ⟨g, 0, none⟩), .string ah] w fun E w' => ∃ (o : Bm.Ov) (a' : Nat) (bad' : Bool), E = .returned (opv o.p o.k o.v) ∧ Brd w0 w' g vb bs a' bad' ∧ w.grownBy w' (some g) ∧ Bm.OS bs a bad ah.data.toList o a' bad' ∧ o.k.size ≤ 16 ∧ o.v.size ≤ 32 := by
  unfold opv
  have hby := h.is.bytes
  have hg := h.lt
  have hw0 := h.2.2.1.size
  obtain ⟨W, hW, szW, belW, blkR⟩ := blk_step w #[.bool false, .string ⟨#[]⟩, .string ⟨#[]⟩] 93
  have r0 := h.below belW
  have grW := grown_of_below belW (some g)
  have HBY := hide hby
  clear h hby
  go_enter Tryz.func111, Tryz.ntmps111
  go_wp2_with fail
  refine (bnum_any w0 W g vb bs a bad 1 r0 hl (by omega)).mono ?_
  rintro E w1 ⟨mark, a1, bad1, rfl, r1, gr1, s1⟩
  have sz1 := gr1.size
  have blkR1 := (gr1.block w.heap.size (by omega) (by simp; omega)).trans blkR
  have hmark := Bm.ss_le s1
  have grA : w.grownBy w1 (some g) := grown_trans grW gr1
  clear r0 grW gr1 blkR belW hW
  rcases (show mark = 0 ∨ mark = 1 by omega) with rfl | rfl
  · have S1 := hide s1
    clear s1
    go_wp2_with fail
    refine (bkey_any w0 w1 g vb bs a1 bad1 ah r1 hl hah).mono ?_
    rintro E w2 ⟨k, a2, bad2, rfl, r2, gr2, ks⟩
    have sz2 := gr2.size
    have blkR2 := (gr2.block w.heap.size (by omega) (by simp; omega)).trans blkR1
    obtain ⟨W3, hW3, sz3, bel3, blkO⟩ := blk_step w2 #[.bool false, .string k, .string ⟨#[]⟩] 93
    have O0 := blk_froz blkO 0
    have O1 := blk_froz blkO 1
    have O2 := blk_froz blkO 2
    have x0 : W3.setCell ⟨w2.heap.size, 0, none⟩ (.bool false) = W3 := set_same blkO (j := 0) rfl
    have x1 : W3.setCell ⟨w2.heap.size, 1, none⟩ (.string k) = W3 := set_same blkO (j := 1) rfl
    have x2 : W3.setCell ⟨w2.heap.size, 2, none⟩ (.string ⟨#[]⟩) = W3 := set_same blkO (j := 2) rfl
    have r3 := r2.below bel3
    have blkR3 := (bel3.block w.heap.size (by omega)).trans blkR2
    have o0 : W3.cell? ⟨w2.heap.size, 0, none⟩ = some (.bool false) := blk_cell blkO 0 rfl
    have o1 : W3.cell? ⟨w2.heap.size, 1, none⟩ = some (.string k) := blk_cell blkO 1 rfl
    have o2 : W3.cell? ⟨w2.heap.size, 2, none⟩ = some (.string ⟨#[]⟩) := blk_cell blkO 2 rfl
    have R0 : W3.cell? ⟨w.heap.size, 0, none⟩ = some (.bool false) := blk_cell blkR3 0 rfl
    have R1 : W3.cell? ⟨w.heap.size, 1, none⟩ = some (.string ⟨#[]⟩) := blk_cell blkR3 1 rfl
    have R2 : W3.cell? ⟨w.heap.size, 2, none⟩ = some (.string ⟨#[]⟩) := blk_cell blkR3 2 rfl
    have F0 := blk_froz blkR3 0
    have F1 := blk_froz blkR3 1
    have F2 := blk_froz blkR3 2
    obtain ⟨V', hV', bV', gV'⟩ := put3 blkR3 (.bool false) (.string k) (.string ⟨#[]⟩)
    have k0 : V'.cell? ⟨w.heap.size, 0, none⟩ = some (.bool false) := blk_cell bV' 0 rfl
    have k1 : V'.cell? ⟨w.heap.size, 1, none⟩ = some (.string k) := blk_cell bV' 1 rfl
    have k2 : V'.cell? ⟨w.heap.size, 2, none⟩ = some (.string ⟨#[]⟩) := blk_cell bV' 2 rfl
    have grB : w.grownBy V' (some g) := grown_fresh (grown_trans (grown_trans grA gr2) (grown_of_below bel3 _)) gV' (Nat.le_refl _)
    have rV : Brd w0 V' g vb bs a2 bad2 := r3.grown gV' hw0 (by omega)
    have hOS : Bm.OS bs a bad ah.data.toList ⟨false, k, ⟨#[]⟩⟩ a2 bad2 := Bm.ks_del HBY.out S1.out ks rfl rfl rfl
    have hkl := Bm.ks_len ks (by rw [← Lib.size_eq]; exact hah)
    rw [← Lib.size_eq] at hkl
    have RV := hide rV
    have OS := hide hOS
    clear ks r1 r2 r3 blkR1 blkR2 blkR3 blkO bV' gV' rV hOS grA gr2 bel3
    go_wp2
    refine bodyPost_ret (v := .agg #[.bool false, .string k, .string ⟨#[]⟩]) (by simp [results, Tryz.results111, go_sem, k0, k1, k2]) rfl ?_
    exact ⟨⟨false, k, ⟨#[]⟩⟩, a2, bad2, rfl, RV.out, grB, OS.out, hkl, by simp [ByteArray.size]⟩
  · have S1 := hide s1
    clear s1
    go_wp2_with fail
    refine (bkey_any w0 w1 g vb bs a1 bad1 ah r1 hl hah).mono ?_
    rintro E w2 ⟨k, a2, bad2, rfl, r2, gr2, ks⟩
    have sz2 := gr2.size
    have blkR2 := (gr2.block w.heap.size (by omega) (by simp; omega)).trans blkR1
    obtain ⟨W3, hW3, sz3, bel3, blkO⟩ := blk_step w2 #[.bool true, .string k, .string ⟨#[]⟩] 93
    have O0 := blk_froz blkO 0
    have O1 := blk_froz blkO 1
    have O2 := blk_froz blkO 2
    have x0 : W3.setCell ⟨w2.heap.size, 0, none⟩ (.bool true) = W3 := set_same blkO (j := 0) rfl
    have x1 : W3.setCell ⟨w2.heap.size, 1, none⟩ (.string k) = W3 := set_same blkO (j := 1) rfl
    have x2 : W3.setCell ⟨w2.heap.size, 2, none⟩ (.string ⟨#[]⟩) = W3 := set_same blkO (j := 2) rfl
    have r3 := r2.below bel3
    have blkR3 := (bel3.block w.heap.size (by omega)).trans blkR2
    have o0 : W3.cell? ⟨w2.heap.size, 0, none⟩ = some (.bool true) := blk_cell blkO 0 rfl
    have o1 : W3.cell? ⟨w2.heap.size, 1, none⟩ = some (.string k) := blk_cell blkO 1 rfl
    have o2 : W3.cell? ⟨w2.heap.size, 2, none⟩ = some (.string ⟨#[]⟩) := blk_cell blkO 2 rfl
    have grB : w.grownBy W3 (some g) := grown_trans (grown_trans grA gr2) (grown_of_below bel3 _)
    have hkl := Bm.ks_len ks (by rw [← Lib.size_eq]; exact hah)
    rw [← Lib.size_eq] at hkl
    have KS := hide ks
    clear ks r1 r2 grA gr2 bel3 blkR1 blkR2
    go_wp2_with fail
    refine (bnum_any w0 W3 g vb bs a2 bad2 32 r3 hl (by omega)).mono ?_
    rintro E w4 ⟨n, a4, bad4, rfl, r4, gr4, s4⟩
    have hn := Bm.ss_le s4
    have sz4 := gr4.size
    have blkR4 := (gr4.block w.heap.size (by omega) (by simp; omega)).trans blkR3
    have blkO4 := (gr4.block w2.heap.size (by omega) (by simp; omega)).trans blkO
    have S4 := hide s4
    clear s4
    go_wp2_with fail
    refine (btext_any w0 w4 g vb bs a4 bad4 n r4 hl (by omega)).mono ?_
    rintro E w5 ⟨s, ys, a5, bad5, rfl, hs, r5, gr5, s5⟩
    have sz5 := gr5.size
    have blkR5 := (gr5.block w.heap.size (by omega) (by simp; omega)).trans blkR4
    have blkO5 := (gr5.block w2.heap.size (by omega) (by simp; omega)).trans blkO4
    have p2 : w5.cell? ⟨w2.heap.size, 2, none⟩ = some (.string ⟨#[]⟩) := blk_cell blkO5 2 rfl
    have q2 := blk_froz blkO5 2
    obtain ⟨W6, hW6⟩ : ∃ W6, w5.setCell ⟨w2.heap.size, 2, none⟩ (.string s) = W6 := ⟨_, rfl⟩
    have blkO6 : W6.heap[w2.heap.size]? = some (.cells #[.bool true, .string k, .string s] 93 (0, 0)) := by rw [← hW6]; exact set_cells blkO5 2 (.string s)
    have gr6 : w5.grownBy W6 (some w2.heap.size) := by rw [← hW6]; exact grown_setCell w5 ⟨w2.heap.size, 2, none⟩ _
    have sz6 := gr6.size
    have blkR6 := (gr6.block w.heap.size (by omega) (by simp; omega)).trans blkR5
    have r6 := r5.grown gr6 (by omega) (by omega)
    have o0 : W6.cell? ⟨w2.heap.size, 0, none⟩ = some (.bool true) := blk_cell blkO6 0 rfl
    have o1 : W6.cell? ⟨w2.heap.size, 1, none⟩ = some (.string k) := blk_cell blkO6 1 rfl
    have o2 : W6.cell? ⟨w2.heap.size, 2, none⟩ = some (.string s) := blk_cell blkO6 2 rfl
    have R0 : W6.cell? ⟨w.heap.size, 0, none⟩ = some (.bool false) := blk_cell blkR6 0 rfl
    have R1 : W6.cell? ⟨w.heap.size, 1, none⟩ = some (.string ⟨#[]⟩) := blk_cell blkR6 1 rfl
    have R2 : W6.cell? ⟨w.heap.size, 2, none⟩ = some (.string ⟨#[]⟩) := blk_cell blkR6 2 rfl
    have F0 := blk_froz blkR6 0
    have F1 := blk_froz blkR6 1
    have F2 := blk_froz blkR6 2
    obtain ⟨V', hV', bV', gV'⟩ := put3 blkR6 (.bool true) (.string k) (.string s)
    have k0 : V'.cell? ⟨w.heap.size, 0, none⟩ = some (.bool true) := blk_cell bV' 0 rfl
    have k1 : V'.cell? ⟨w.heap.size, 1, none⟩ = some (.string k) := blk_cell bV' 1 rfl
    have k2 : V'.cell? ⟨w.heap.size, 2, none⟩ = some (.string s) := blk_cell bV' 2 rfl
    have grC : w.grownBy V' (some g) := grown_fresh (grown_fresh (grown_trans (grown_trans grB gr4) gr5) gr6 (by omega)) gV' (Nat.le_refl _)
    have rV : Brd w0 V' g vb bs a5 bad5 := r6.grown gV' hw0 (by omega)
    have hOS : Bm.OS bs a bad ah.data.toList ⟨true, k, s⟩ a5 bad5 := Bm.ks_put HBY.out S1.out KS.out rfl rfl hs S4.out s5
    have hsl : s.size ≤ 32 := by
      have := Bm.bs_le s5
      have e := congrArg List.length hs
      rw [Om.byts_len, ← Lib.size_eq] at e
      omega
    have RV := hide rV
    have OS := hide hOS
    clear hs s5 r4 r5 r6 rV hOS blkR3 blkR4 blkR5 blkR6 blkO blkO4 blkO5 blkO6 bV' gV' grB gr4 gr5 gr6
    go_wp2
    refine bodyPost_ret (v := .agg #[.bool true, .string k, .string s]) (by simp [results, Tryz.results111, go_sem, k0, k1, k2]) rfl ?_
    exact ⟨⟨true, k, s⟩, a5, bad5, rfl, RV.out, grC, OS.out, hkl, hsl⟩

/-- An op that is read is small. -/
def SmallO (l : List Bm.Ov) : Prop := ∀ o ∈ l, o.k.size ≤ 16 ∧ o.v.size ≤ 32

theorem SmallO.fit {l : List Bm.Ov} (h : SmallO l) : FitO l := fun o ho => by have := h o ho; omega

theorem SmallO.snoc {l : List Bm.Ov} {o : Bm.Ov} (h : SmallO l) (h1 : o.k.size ≤ 16) (h2 : o.v.size ≤ 32) : SmallO (l ++ [o]) := by
  intro x hx
  rcases List.mem_append.1 hx with hx | hx
  · exact h x hx
  · rw [List.mem_singleton.1 hx]; exact ⟨h1, h2⟩

theorem small_of {l : List Bm.Ov} (h : Bm.chkL l = 0) : SmallO l := by
  intro o ho
  have := Om.chk_ok' ((Bm.chkL_zero h).2.2 o ho)
  simp only [Bm.Ov.kl, Bm.Ov.vl, ← Lib.size_eq] at this
  omega

theorem bres_small {bs : List Int} {l : List Bm.Ov} {n e : Int} (h : Bm.BRes bs l n e) : SmallO l ∧ l.length ≤ 8 := by
  rcases h with ⟨_, h, _⟩ | ⟨_, h, _⟩
  · exact ⟨small_of h, (Bm.chkL_zero h).2.1⟩
  · subst h
    exact ⟨fun o ho => by simp at ho, by simp⟩

set_option maxHeartbeats 1000000 in
theorem bread_any (vb : Value) (bs : List Int) (w : World) (hb : Is .u8 w vb bs) (hl : bs.length ≤ 140737488355328) :
    Calls Tryz.prog 108 #[vb] w fun E w' => ∃ (vl : Value) (l : List Bm.Ov) (n e : Int), E = .returned (.tuple #[vl, .int .i64 n, .int .i64 e]) ∧ OwnO 93 w.heap.size w' vl l ∧ Bm.BRes bs l n e ∧ Below w.heap.size w w' := by
  obtain ⟨i0, hi, hz0, hz1, hz2⟩ := info_parts Tryz.info93
  obtain ⟨ao, cap, rfl, _, _⟩ := hb.shape
  obtain ⟨W1, hW1, sz1, bel1, blk1⟩ := blk_step w #[.slice ao bs.length cap, .int .i64 0, .int .i64 0] 127
  have r1 : Brd w W1 w.heap.size (.slice ao bs.length cap) bs 0 false := ⟨hb, by omega, bel1, blk1, by omega⟩
  have c0 : W1.cell? ⟨w.heap.size, 0, none⟩ = some (.slice ao bs.length cap) := blk_cell blk1 0 rfl
  have c1 : W1.cell? ⟨w.heap.size, 1, none⟩ = some (.int .i64 0) := blk_cell blk1 1 rfl
  have c2 : W1.cell? ⟨w.heap.size, 2, none⟩ = some (.int .i64 0) := blk_cell blk1 2 rfl
  have f0 := blk_froz blk1 0
  have f1 := blk_froz blk1 1
  have f2 := blk_froz blk1 2
  have x0 : W1.setCell ⟨w.heap.size, 0, none⟩ (.slice ao bs.length cap) = W1 := set_same blk1 (j := 0) rfl
  have x1 : W1.setCell ⟨w.heap.size, 1, none⟩ (.int .i64 0) = W1 := set_same blk1 (j := 1) rfl
  have x2 : W1.setCell ⟨w.heap.size, 2, none⟩ (.int .i64 0) = W1 := set_same blk1 (j := 2) rfl
  clear blk1
  go_enter Tryz.func108, Tryz.ntmps108
  go_wp2_with fail
  refine (bnum_any w W1 w.heap.size _ bs 0 false 8 r1 hl (by omega)).mono ?_
  rintro E w2 ⟨c, a2, bad2, rfl, r2, gr2, s2⟩
  have hc8 := Bm.ss_le s2
  have sz2 := gr2.size
  have LS0 := hide (Bm.ls_start s2)
  clear s2 r1
  go_wp2_with (at_make; refine wpList_make_own _ rfl _ _ 57 rfl (w.heap.size + 1) 93 i0 (.agg #[.bool false, .string ⟨#[]⟩, .string ⟨#[]⟩]) 3 Tryz.underlying57 hi hz0 hz1 _ _ _ c rfl rfl (by omega) ?b2 ?b3 (by omega) ?_)
  case b2 => rw [hz2]; omega
  case b3 => unfold maxLen; omega
  intro w3 hown3 hgrow3
  have bel3 : Below w2.heap.size w2 w3 := (Below.refl _ _).grown hgrow3 (Nat.le_refl _) (by simp)
  have own3 : OwnO 93 (w.heap.size + 1) w3 (.slice (some ⟨w2.heap.size, 0, none⟩) 0 c) [] := hown3
  have r3 := r2.below bel3
  have sz3 := bel3.size
  clear r2 bel3 hown3 hgrow3 gr2 c0 c1 c2 f0 f1 f2 x0 x1 x2 hW1 bel1
  go_wp2
  go_loopw [2, 7, 15] (fun lv av i wr => ∃ (k : Nat) (l : List Bm.Ov) (ah : ByteArray) (a : Nat) (bad : Bool), k ≤ c ∧ i = .int .i64 k ∧ av = .string ah ∧ ah.size ≤ 16 ∧ l.length = k ∧ Hid (SmallO l) ∧ OwnO 93 (w.heap.size + 1) wr lv l ∧ Brd w wr w.heap.size (.slice ao bs.length cap) bs a bad ∧ Hid (Bm.LS bs c l a bad ah.data.toList)) (fun _ _ i _ => c - (intOf i).toNat)
  case atStart => exact ⟨0, [], ⟨#[]⟩, a2, bad2, by omega, rfl, rfl, by simp [ByteArray.size], rfl, hide (fun o ho => by simp at ho), own3, r3, LS0⟩
  case round =>
    obtain ⟨k, l, ah, a, bad, hk, rfl, rfl, hah, hlk, HS, own, r, L⟩ := hrel
    have hgl := r.lt
    by_cases hlt : k < c
    · have hlt' : (k : Int) < c := by omega
      go_wp2_with fail
      refine (bop_any w wr w.heap.size _ bs a bad ah r hl hah).mono ?_
      rintro E w4 ⟨o, a4, bad4, rfl, r4, gr4, os4, hok, hov⟩
      unfold opv
      have sz4 := gr4.size
      have own4 := own.kept gr4 (by
        rcases hv : Value.ownBlock _ with _ | b
        · exact .inl rfl
        · refine .inr fun e => ?_
          have := own.block b hv
          simp at e
          omega)
      have own4b := own4.block
      have L4 := hide (Bm.ls_step L.out (by omega) os4)
      have HS4 := hide (HS.out.snoc hok hov)
      obtain ⟨w5, hw5, sz5, bel5, blk5⟩ := blk_step w4 #[.bool o.p, .string o.k, .string o.v] 93
      have p0 : w5.cell? ⟨w4.heap.size, 0, none⟩ = some (.bool o.p) := blk_cell blk5 0 rfl
      have p1 : w5.cell? ⟨w4.heap.size, 1, none⟩ = some (.string o.k) := blk_cell blk5 1 rfl
      have p2 : w5.cell? ⟨w4.heap.size, 2, none⟩ = some (.string o.v) := blk_cell blk5 2 rfl
      have q0 := blk_froz blk5 0
      have q1 := blk_froz blk5 1
      have q2 := blk_froz blk5 2
      have x0 : w5.setCell ⟨w4.heap.size, 0, none⟩ (.bool o.p) = w5 := set_same blk5 (j := 0) rfl
      have x1 : w5.setCell ⟨w4.heap.size, 1, none⟩ (.string o.k) = w5 := set_same blk5 (j := 1) rfl
      have x2 : w5.setCell ⟨w4.heap.size, 2, none⟩ (.string o.v) = w5 := set_same blk5 (j := 2) rfl
      have own5 := own4.below bel5
      have r5 := r4.below bel5
      obtain ⟨w6, hw6, sz6, bel6, own6⟩ := ops_step 93 w5 #[.bool o.p, .string o.k, .string o.v] 1 [o] rfl rfl (by simp [maxLen])
      rw [sz5] at own6
      have own7 := own5.below bel6
      have r6 := r5.below bel6
      have blk6 := (bel6.block w4.heap.size (by omega)).trans blk5
      have B6 := hide blk6
      have R6 := hide r6
      clear os4 own own4 own5 r r4 r5 r6 blk5 blk6 bel5 bel6 gr4 L HS
      go_wp2_with (at_builtin; refine wpList_append_ops rfl (.tmp 19) (.tmp 21) 57 rfl 93 (w.heap.size + 1) Tryz.underlying57 Tryz.info93 _ l rfl own7 _ [o] rfl own6.is (by simp; omega) (by omega) ?_)
      intro v8 w8 own8 bel8 gr8
      have blk8 := (gr8.block w4.heap.size (by omega) (fun e => by have := own4b _ e.symm; omega)).trans B6.out
      have r8 : Brd w w8 w.heap.size (.slice ao bs.length cap) bs a4 bad4 := by
        obtain ⟨h1, h2, h3, h4, h5⟩ := R6.out
        have hs := h3.size
        exact ⟨h1, h2, h3.trans (bel8.mono (by omega)), (bel8.block w.heap.size (by omega)).trans h4, h5⟩
      have k1 : w8.cell? ⟨w4.heap.size, 1, none⟩ = some (.string o.k) := blk_cell blk8 1 rfl
      clear blk8 own7 own6 gr8 bel8 B6 R6 p0 p1 p2 q0 q1 q2 x0 x1 x2 own4b hw5 hw6
      go_wp2
      go_roundw
      case rel => exact ⟨k + 1, l ++ [o], o.k, a4, bad4, by omega, by go_num, rfl, hok, by simp [hlk], HS4, own8, r8, L4⟩
      case measure => simp [intOf]; omega
    · have hke : k = c := by omega
      have hlt' : ¬ (k : Int) < c := by omega
      have belr : Below w.heap.size w wr := r.2.2.1
      cases bad
      · have e2 := r.good
        have e1 := r.cell1
        have R := hide r
        clear r
        by_cases hc : Bm.chkL l = 0
        · have HR := hide (Bm.ls_end L.out (by omega) hc)
          have HC := hide hc
          clear hc L
          go_wp2_with fail
          refine (bcheck_any _ l _ own.is HS.out.fit (by omega)).mono ?_
          rintro E w9 ⟨rfl, bel9⟩
          rw [HC.out]
          have r9 := R.out.below bel9
          have e19 := r9.cell1
          have own9 := (own.below bel9).rebase (base' := w.heap.size) (by omega)
          have bel10 : Below w.heap.size w w9 := belr.trans (bel9.mono belr.size)
          clear own r9 bel9
          go_wp2_with fail
          go_quiet (fail)
          go_wp2
          refine bodyPost_ret (v := .tuple #[_, .int .i64 (a : Int), .int .i64 0]) (by simp [results, Tryz.results108, go_sem]; rfl) rfl ?_
          exact ⟨_, l, _, _, rfl, own9.below (below_drewN (Below.refl _ _) nq), HR.out, below_drewN bel10 nq⟩
        · have HR := hide (Bm.ls_bad L.out (fun _ => by omega) (.inr hc))
          obtain ⟨cc, hcc⟩ : ∃ cc, Bm.chkL l = cc := ⟨_, rfl⟩
          have hcb : (cc != 0) = true := by rw [← hcc]; simpa using hc
          have HC := hide hcc
          clear hc L hcc
          go_wp2_with fail
          refine (bcheck_any _ l _ own.is HS.out.fit (by omega)).mono ?_
          rintro E w9 ⟨rfl, bel9⟩
          rw [HC.out]
          have bel10 : Below w.heap.size w w9 := belr.trans (bel9.mono belr.size)
          go_wp2
          refine bodyPost_ret (v := .tuple #[.slice none 0 0, .int .i64 0, .int .i64 5]) (by simp [results, Tryz.results108, go_sem]) rfl ?_
          exact ⟨_, [], _, _, rfl, OwnO.nil _ _ _, HR.out, bel10⟩
      · have e2 := r.evil
        have HR := hide (Bm.ls_bad L.out (fun h => by simp at h) (.inl rfl))
        clear L r
        go_wp2
        refine bodyPost_ret (v := .tuple #[.slice none 0 0, .int .i64 0, .int .i64 5]) (by simp [results, Tryz.results108, go_sem]) rfl ?_
        exact ⟨_, [], _, _, rfl, OwnO.nil _ _ _, HR.out, belr⟩

end Go.Proofs.YtkpnkknolobioaaGreat

/- The contracts of the document's reader: Small, Bytes. -/
namespace Go.Proofs.YtkpnkknolobioaaGreat
open Go.RowKit
set_option linter.unusedVariables false

theorem Tryz.elemB : Tryz.prog.underlying 22 = some (.slice (Tryz.prog.elem 22)) := by kernel_rfl
theorem Tryz.sizeE (wx : World) : (sizeOf (Tryz.prog.elem 22)).run Tryz.prog wx = .ok 1 wx := by kernel_rfl

/-- What a reader's Small does. -/
def SStep (bs : List Int) (most a : Nat) (bad : Bool) (u a' : Nat) (bad' : Bool) : Prop :=
  (bad = true ∧ bad' = true ∧ u = 0 ∧ a' = a) ∨ (bad = false ∧ bad' = true ∧ u = 0 ∧ a' = a ∧ ∀ x : Nat, x ≤ most → ¬ Vm.enc x <+: bs.drop a) ∨ (bad = false ∧ bad' = false ∧ u ≤ most ∧ Vm.enc u <+: bs.drop a ∧ a' = a + Vm.sz u)

/-- What a reader's Bytes does. -/
def BStep (bs : List Int) (n a : Nat) (bad : Bool) (zs : List Int) (a' : Nat) (bad' : Bool) : Prop :=
  ((bad = true ∨ bs.length - a < n) ∧ bad' = true ∧ zs = [] ∧ a' = a) ∨ (bad = false ∧ n ≤ bs.length - a ∧ bad' = false ∧ zs = (bs.drop a).take n ∧ a' = a + n)

end Go.Proofs.YtkpnkknolobioaaGreat
