/- Texts of one layer, one behind the other. -/
import Derived.Test.YtimmohpnlieefaaA2
import Derived.Laws.BytesArg
import Derived.Test.YtimmohpnlieefaaA1
import Derived.Test.YtimmohpnlieefaaA3
/- The contracts of Encode: the program's, the document's; of the copy that slices.Clone makes of ops, and of Copy. -/
namespace Go.Proofs.Ytimmohpnlieefaa
open Go.RowKit
set_option linter.unusedVariables false

set_option maxHeartbeats 400000 in
theorem cenc_any (e n : Int) (v : Value) (l : List Bm.Ov) (w : World) (h : IsO w v l) (hf : FitO l) (hl : l.length ≤ 140737488355328) :
    Calls Try.prog 77 #[cmv e n v] w fun E w' => ∃ vb, E = .returned (.tuple #[vb, .int .i64 (Cm.chk e n l)]) ∧ Own .u8 5 w.heap.size w' vb (Cm.out e n l) ∧ Below w.heap.size w w' := by
  unfold cmv
  obtain ⟨ch, hch⟩ : ∃ c, Cm.chk e n l = c := ⟨_, rfl⟩
  obtain ⟨ou, hou⟩ : ∃ c, Cm.out e n l = c := ⟨_, rfl⟩
  rw [hch, hou]
  have HC := hide hch
  have HO := hide hou
  clear hch hou
  obtain ⟨w1, hw1, sz1, bel1, hB⟩ := blk_step w #[.int .i64 e, .int .i64 n, v] 32
  have c0 := blk_cell hB 0 rfl
  have c1 := blk_cell hB 1 rfl
  have c2 := blk_cell hB 2 rfl
  have h1 := h.below bel1
  obtain ⟨ao, cap, rfl, _, _⟩ := h.shape
  have BB := hide hB
  clear hB
  go_enter Try.func77, Try.ntmps77
  go_wp2_with fail
  refine (ccheck_any e n _ l _ h1 hf hl).mono ?_
  rintro E w2 ⟨rfl, bel2⟩
  rw [HC.out]
  have sz2 := bel2.size
  have hB2 := (bel2.block _ (by omega)).trans BB.out
  have d0 := blk_cell hB2 0 rfl
  have d1 := blk_cell hB2 1 rfl
  have d2 := blk_cell hB2 2 rfl
  have h2 := h1.below bel2
  have bel02 := bel1.trans (bel2.mono (by omega))
  have B2 := hide hB2
  clear BB c0 c1 c2 hB2 bel1 bel2 h1
  by_cases hc : ch = 0
  · subst hc
    have hc := HC.out
    obtain ⟨g1, g2, g3, g4, g5⟩ := Cm.chk_zero hc
    have hO := HO.out
    rw [Cm.out_ok hc, Cm.encC] at hO
    replace HO := hide hO
    clear hO
    have hs1 := Cm.enc_small g2
    have hs2 := Cm.enc_small g4
    clear hc
    go_wp2_with fail
    refine (app_any _ [] e _ (Is.nil _ _) (by simp) (by omega) (by omega)).mono ?_
    rintro E w3 ⟨vb, rfl, own3, bel3⟩
    have sz3 := bel3.size
    have hB3 := (bel3.block _ (by omega)).trans B2.out
    have f1 := blk_cell hB3 1 rfl
    have h3 := h2.below bel3
    have bel03 := bel02.trans (bel3.mono (by omega))
    have B3 := hide hB3
    rw [List.nil_append] at own3
    clear B2 d0 d1 d2 hB3 bel3 h2 bel02
    go_wp2_with fail
    refine (app_any _ _ n _ own3.is (by omega) (by omega) (by omega)).mono ?_
    rintro E w4 ⟨vc, rfl, own4, bel4⟩
    have sz4 := bel4.size
    have hB4 := (bel4.block _ (by omega)).trans B3.out
    have q2 := blk_cell hB4 2 rfl
    have h4 := h3.below bel4
    have bel04 := bel03.trans (bel4.mono (by omega))
    clear B3 f1 hB4 bel4 h3 bel03 own3
    go_wp2_with fail
    refine (bapp_any _ _ _ l _ own4.is (by rw [List.length_append]; omega) h4 hf hl).mono ?_
    rintro E w5 ⟨vd, rfl, own5, bel5⟩
    rw [g5]
    rw [Bm.appB_ok g5, List.append_assoc, HO.out] at own5
    have own5' := own5.rebase (base' := w.heap.size) (by omega)
    have bel05 := bel04.trans (bel5.mono (by omega))
    clear own5 own4 h4 bel04 bel5
    go_wp2
    refine bodyPost_ret (v := .tuple #[vd, .int .i64 0]) (by simp [results, Try.results77, go_sem]) rfl ?_
    exact ⟨_, rfl, own5', bel05⟩
  · have hne : (ch == 0) = false := by simpa using hc
    have hO := HO.out
    rw [Cm.out_no (by rw [HC.out]; exact hc)] at hO
    subst hO
    clear hc
    go_wp2
    refine bodyPost_ret (v := .tuple #[.slice none 0 0, .int .i64 ch]) (by simp [results, Try.results77, go_sem]) rfl ?_
    exact ⟨_, rfl, Own.nil _ _ _ _, bel02⟩

end Go.Proofs.Ytimmohpnlieefaa

/- The contracts of op's readCounted and Read. -/
namespace Go.Proofs.Ytimmohpnlieefaa
open Go.RowKit
set_option linter.unusedVariables false

/-- 'string(b)'. -/
theorem Is.conv {w : World} {v : Value} {zs : List Int} (h : Is .u8 w v zs) {P : Program} {src e dst : TypeId} (hs : P.underlying src = some (.slice e)) (he : P.underlying e = some (.int .u8)) (hd : P.underlying dst = some .string) :
    (convert src dst v).run P w = .ok (.string ⟨(Om.byts zs).toArray⟩) w := by
  by_cases hz : 0 < zs.length
  · obtain ⟨b, o, c, rfl, _, _, _, hc⟩ := h.full hz
    exact run_convert_bytes_arg w src e hs he b o zs.length c zs rfl hc dst hd
  · have : zs = [] := List.eq_nil_of_length_eq_zero (by omega)
    subst this
    obtain ⟨ao, c, rfl⟩ := h.bare
    cases ao with
    | none => exact run_convert_bytes_nil w src e hs he 0 c dst hd
    | some ad =>
      rw [run_convert_bytes_string w src dst e _ 0 c hs he hd, run_bytesToString w ad 0 c [] (by have := run_loadCells_list (P := P) w ad [] (by simp); simpa using this)]
      rfl

theorem Is.bytes {w : World} {v : Value} {zs : List Int} (h : Is .u8 w v zs) : ∀ z ∈ zs, 0 ≤ z ∧ z < 256 := by
  intro z hz
  obtain ⟨i, hi, rfl⟩ := List.getElem_of_mem hz
  have := h.byte i
  simpa [List.getD, hi] using this

theorem cres_bad {bs : List Int} {most : Nat} {u i g : Int} (hS : SRes bs most u i g) (hg : g ≠ 0) (hm : most ≤ 64) : ∀ t : List UInt8, t.length ≤ most → ¬ Om.cnt t <+: bs := by
  intro t ht hp
  have hp1 : Vm.enc t.length <+: bs := (List.prefix_append _ _).trans hp
  rcases hS with ⟨_, _, _, h⟩ | ⟨_, _, _, x, n, e, hR, hc⟩
  · exact hg h
  · have := Vm.res_good hR (u := t.length) (by omega) hp1
    omega

theorem cres_short {bs : List Int} {most : Nat} {u i : Int} (hR : Vm.Res bs u i 0) (hs : (bs.length : Int) - i < u) : ∀ t : List UInt8, t.length ≤ most → most ≤ 64 → ¬ Om.cnt t <+: bs := by
  intro t ht hm hp
  have hp1 : Vm.enc t.length <+: bs := (List.prefix_append _ _).trans hp
  have := Vm.res_good hR (u := t.length) (by omega) hp1
  have h2 := hp.length_le
  rw [Om.cnt_len] at h2
  omega

theorem cres_good {bs : List Int} {most u n : Nat} (hb : ∀ z ∈ bs, 0 ≤ z ∧ z < 256) (hR : Vm.Res bs u n 0) (hu : u ≤ most) (hs : n + u ≤ bs.length) :
    Om.CRes bs most (Om.byts ((bs.drop n).take u)) (n + u) 0 := by
  have hl : (Om.byts ((bs.drop n).take u)).length = u := by rw [Om.byts_len, List.length_take, List.length_drop]; omega
  rcases hR with ⟨x, _, hp, h1, h2, _⟩ | ⟨_, _, _, h⟩
  · have hx : x = u := by omega
    have hn : n = Vm.sz u := by rw [hx] at h2; omega
    subst hx
    refine .inl ⟨rfl, by rw [hl]; exact hu, ?_, ?_⟩
    · unfold Om.cnt
      rw [hl, Om.ints_byts (fun z hz => hb z (List.mem_of_mem_drop (List.mem_of_mem_take hz)))]
      obtain ⟨r, hr⟩ := hp
      have hln : (Vm.enc x).length = n := hn.symm
      have : bs.drop n = r := by rw [← hr, ← hln]; simp
      rw [this, ← hr]
      exact (List.prefix_append_right_inj _).2 (List.take_prefix _ _)
    · rw [Om.cnt_len, hl, hn]
  · simp at h

theorem empty_of {s : ByteArray} (h : s.data.toList = []) : s = ⟨#[]⟩ := by
  obtain ⟨⟨l⟩⟩ := s
  simp at h
  rw [h]

end Go.Proofs.Ytimmohpnlieefaa

/- The contracts of the methods of batch's reader. -/
namespace Go.Proofs.Ytimmohpnlieefaa
open Go.RowKit
set_option linter.unusedVariables false
set_option maxRecDepth 100000


theorem wrap64_small (z : Int) (h0 : -9223372036854775808 ≤ z) (h1 : z < 9223372036854775808) : IntKind.i64.wrap z = z := by
  unfold IntKind.wrap
  simp [IntKind.bits, IntKind.signed]
  omega

/-- The error's number. -/
def ei (bad : Bool) : Int := if bad then 5 else 0

/-- A reader in block g: of the bytes bs (they lie where w0 has them), at a place, bad or not. -/
def Brd (w0 w : World) (g : Nat) (vb : Value) (bs : List Int) (a : Nat) (bad : Bool) : Prop :=
  Is .u8 w0 vb bs ∧ w0.heap.size ≤ g ∧ Below w0.heap.size w0 w ∧ w.heap[g]? = some (.cells #[vb, .int .i64 a, .int .i64 (ei bad)] 144 (0, 0)) ∧ a ≤ bs.length

section
variable {w0 w w' : World} {g a : Nat} {vb : Value} {bs : List Int} {bad : Bool}

theorem Brd.lt (h : Brd w0 w g vb bs a bad) : g < w.heap.size := blk_lt h.2.2.2.1
theorem Brd.is (h : Brd w0 w g vb bs a bad) : Is .u8 w vb bs := h.1.below h.2.2.1
theorem Brd.below (h : Brd w0 w g vb bs a bad) (hb : Below w.heap.size w w') : Brd w0 w' g vb bs a bad :=
  ⟨h.1, h.2.1, h.2.2.1.trans (hb.mono h.2.2.1.size), (hb.block g h.lt).trans h.2.2.2.1, h.2.2.2.2⟩
theorem Brd.grown (h : Brd w0 w g vb bs a bad) {row : Nat} (hb : w.grownBy w' (some row)) (hr : w0.heap.size ≤ row) (hne : row ≠ g) : Brd w0 w' g vb bs a bad :=
  ⟨h.1, h.2.1, h.2.2.1.grown hb h.2.2.1.size (fun k hk => by simp at hk; omega), (hb.block g h.lt (by simp; omega)).trans h.2.2.2.1, h.2.2.2.2⟩
theorem Brd.cell0 (h : Brd w0 w g vb bs a bad) : w.cell? ⟨g, 0, none⟩ = some vb := blk_cell h.2.2.2.1 0 rfl
theorem Brd.cell1 (h : Brd w0 w g vb bs a bad) : w.cell? ⟨g, 1, none⟩ = some (.int .i64 a) := blk_cell h.2.2.2.1 1 rfl
theorem Brd.cell2 (h : Brd w0 w g vb bs a bad) : w.cell? ⟨g, 2, none⟩ = some (.int .i64 (ei bad)) := blk_cell h.2.2.2.1 2 rfl
theorem Brd.good (h : Brd w0 w g vb bs a false) : w.cell? ⟨g, 2, none⟩ = some (.int .i64 0) := h.cell2
theorem Brd.evil (h : Brd w0 w g vb bs a true) : w.cell? ⟨g, 2, none⟩ = some (.int .i64 5) := h.cell2
theorem Brd.froz (h : Brd w0 w g vb bs a bad) (j : Nat) : w.frozen? ⟨g, j, none⟩ = false := blk_froz h.2.2.2.1 j
theorem Brd.put1 (h : Brd w0 w g vb bs a bad) (a' : Nat) (ha : a' ≤ bs.length) : Brd w0 (w.setCell ⟨g, 1, none⟩ (.int .i64 a')) g vb bs a' bad :=
  ⟨h.1, h.2.1, h.2.2.1.setCell (p := ⟨g, 1, none⟩) h.2.1 _, by rw [set_cells h.2.2.2.1]; rfl, ha⟩
theorem Brd.put2 (h : Brd w0 w g vb bs a bad) (bad' : Bool) : Brd w0 (w.setCell ⟨g, 2, none⟩ (.int .i64 (ei bad'))) g vb bs a bad' :=
  ⟨h.1, h.2.1, h.2.2.1.setCell (p := ⟨g, 2, none⟩) h.2.1 _, by rw [set_cells h.2.2.2.1]; rfl, h.2.2.2.2⟩

end

theorem small_q (vb : Value) (bs : List Int) (most u i g : Int) (w : World) (hb : Is .u8 w vb bs) (hl : bs.length ≤ 140737488355328) (hm : most < 9223372036854775808) (hm' : -9223372036854775808 ≤ most) (hS : SRes bs most u i g) :
    Calls Try.prog 95 #[vb, .int .i64 most] w fun E w' => E = .returned (.tuple #[.int .i64 u, .int .i64 i, .int .i64 g]) ∧ ∃ m, w' = w.drewN m :=
  (small_any vb bs most u i g w hb (by omega) hm hm' hS).mono (by rintro E w' ⟨rfl, rfl⟩; exact ⟨rfl, 0, rfl⟩)

set_option maxHeartbeats 400000 in
theorem bnum_any (w0 w : World) (g : Nat) (vb : Value) (bs : List Int) (a : Nat) (bad : Bool) (most : Nat) (h : Brd w0 w g vb bs a bad) (hl : bs.length ≤ 140737488355328) (hm : most < 9223372036854775808) :
    Calls Try.prog 116 #[.pointer (some ⟨g, 0, none⟩), .int .i64 most] w fun E w' => ∃ (u a' : Nat) (bad' : Bool), E = .returned (.int .i64 u) ∧ Brd w0 w' g vb bs a' bad' ∧ w.grownBy w' (some g) ∧ Bm.SS bs most a bad u a' bad' := by
  have c0 := h.cell0
  have c1 := h.cell1
  have f1 := h.froz 1
  have f2 := h.froz 2
  have ha := h.2.2.2.2
  cases bad
  · have c2 := h.good
    obtain ⟨vs, hsl, isl⟩ := h.is.slice_l Try.elemP Try.sizeP a ha
    obtain ⟨u, i, e, hS⟩ := sres_is (bs.drop a) most
    have hdl : (bs.drop a).length = bs.length - a := by rw [List.length_drop]
    rcases hS with ⟨hR, h1, h2, he⟩ | ⟨hu, hi, he, x, n, f, hR, hcase⟩
    · have hbd := Vm.res_bounds hR
      obtain ⟨un, rfl⟩ : ∃ un : Nat, u = un := ⟨u.toNat, by omega⟩
      obtain ⟨n, rfl⟩ : ∃ n : Nat, i = n := ⟨i.toNat, by omega⟩
      have hG : Bm.SS bs most a false un (a + n) false := by
        rcases hR with ⟨x, hx, hp, h3, h4, _⟩ | ⟨_, _, _, h5⟩
        · have : x = un := by omega
          subst this
          exact .inr (.inr ⟨rfl, rfl, by omega, hp, by omega⟩)
        · simp at h5
      have hS : SRes (bs.drop a) most un n 0 := .inl ⟨hR, h1, h2, rfl⟩
      have HG := hide hG
      have HS := hide hS
      have HH := hide h
      have hn1 : a + n ≤ bs.length := by omega
      have hn2 : n ≤ 10 := by omega
      clear hS hG hR hbd h he h1 h2
      go_enter Try.func116, Try.ntmps116
      go_wp2_with fail
      go_quiet ((go_at_call 95; refine Calls.quiet_of (small_q _ (bs.drop a) most un n 0 _ (isl.drewN _) (by omega) (by omega) (by omega) HS.out)))
      have r1 := HH.out.below (below_drewN (Below.refl _ _) nq)
      have R3 := hide ((r1.put1 (a + n) hn1).put2 false)
      clear r1 isl hsl
      go_wp2
      go_ret
      exact ⟨un, a + n, false, rfl, R3.out, grown_trans (grown_trans (grown_drewN _ _ _) (grown_setCell _ _ _)) (grown_setCell _ _ _), HG.out⟩
    · have hG : Bm.SS bs most a false 0 a true := by
        refine .inr (.inl ⟨rfl, rfl, rfl, rfl, fun y hy hp => ?_⟩)
        have := Vm.res_good hR (u := y) (by omega) hp
        omega
      have hS : SRes (bs.drop a) most 0 0 5 := .inr ⟨rfl, rfl, rfl, x, n, f, hR, hcase⟩
      have HG := hide hG
      have HS := hide hS
      have HH := hide h
      clear hS hG hR h he hcase hu hi
      go_enter Try.func116, Try.ntmps116
      go_wp2_with fail
      go_quiet ((go_at_call 95; refine Calls.quiet_of (small_q _ (bs.drop a) most 0 0 5 _ (isl.drewN _) (by omega) (by omega) (by omega) HS.out)))
      have r1 := HH.out.below (below_drewN (Below.refl _ _) nq)
      have R3 := hide ((r1.put1 a ha).put2 true)
      clear r1 isl hsl
      go_wp2
      go_ret
      exact ⟨0, a, true, rfl, R3.out, grown_trans (grown_trans (grown_drewN _ _ _) (grown_setCell _ _ _)) (grown_setCell _ _ _), HG.out⟩
  · have c2 := h.evil
    have HH := hide h
    clear h
    go_enter Try.func116, Try.ntmps116
    go_wp2
    go_ret
    exact ⟨0, a, true, rfl, HH.out, World.grownBy.refl _ _, .inl ⟨rfl, rfl, rfl, rfl⟩⟩

set_option maxHeartbeats 400000 in
theorem btext_any (w0 w : World) (g : Nat) (vb : Value) (bs : List Int) (a : Nat) (bad : Bool) (n : Nat) (h : Brd w0 w g vb bs a bad) (hl : bs.length ≤ 140737488355328) (hm : n < 4611686018427387904) :
    Calls Try.prog 123 #[.pointer (some ⟨g, 0, none⟩), .int .i64 n] w fun E w' => ∃ (s : ByteArray) (zs : List Int) (a' : Nat) (bad' : Bool), E = .returned (.string s) ∧ s.data.toList = Om.byts zs ∧ Brd w0 w' g vb bs a' bad' ∧ w.grownBy w' (some g) ∧ Bm.BS bs n a bad zs a' bad' := by
  have c0 := h.cell0
  have c1 := h.cell1
  have f1 := h.froz 1
  have f2 := h.froz 2
  have ha := h.2.2.2.2
  have hlen := h.is.len_run Try.elemP
  cases bad
  · have c2 := h.good
    by_cases hn : n ≤ bs.length - a
    · obtain ⟨vs, hsl, isl⟩ := h.is.slice_lh Try.elemP Try.sizeP a (a + n) (by omega) (by omega)
      rw [show a + n - a = n by omega] at isl
      have hsl2 : ∀ wx, (Instr.slice 37 vb (some (.int .i64 (a : Int))) (some (.int .i64 ((a : Int) + (n : Int)))) none).run Try.prog wx = .ok vs wx := by simpa using hsl
      have hwr : IntKind.i64.wrap ((a : Int) + (n : Int)) = (a : Int) + n := wrap64_small _ (by omega) (by omega)
      have hconv := fun m => (isl.drewN m).conv Try.underlying37 Try.underlying5 Try.underlying9
      clear hsl
      have hge : ¬ (bs.length : Int) - a < n := by omega
      have HH := hide h
      clear h
      go_enter Try.func123, Try.ntmps123
      go_wp2_with fail
      go_quiet (fail)
      go_wp2_with fail
      generalize nq = n1
      have hconv2 := fun m => hconv (n1 + m)
      go_quiet (fail)
      have r1 := HH.out.below (below_drewN (Below.refl _ _) (n1 + nq))
      have k1 := r1.cell1
      have g1 := r1.froz 1
      have R1 := hide r1
      clear r1 hconv hconv2 isl hsl2
      go_wp2
      go_ret
      exact ⟨_, (bs.drop a).take n, a + n, false, rfl, by simp, R1.out.put1 (a + n) (by omega), grown_trans (grown_drewN _ _ _) (grown_setCell _ _ _), .inr ⟨rfl, hn, rfl, rfl, rfl⟩⟩
    · have hge : (bs.length : Int) - a < n := by omega
      have HH := hide h
      clear h
      go_enter Try.func123, Try.ntmps123
      go_wp2_with fail
      go_quiet (fail)
      go_wp2
      go_ret
      exact ⟨_, [], a, true, rfl, rfl, (HH.out.below (below_drewN (Below.refl _ _) nq)).put2 true, grown_trans (grown_drewN _ _ _) (grown_setCell _ _ _), .inl ⟨.inr (by omega), rfl, rfl, rfl⟩⟩
  · have c2 := h.evil
    have HH := hide h
    clear h
    go_enter Try.func123, Try.ntmps123
    go_wp2
    go_ret
    exact ⟨_, [], a, true, rfl, rfl, HH.out, World.grownBy.refl _ _, .inl ⟨.inl rfl, rfl, rfl, rfl⟩⟩

theorem Try.enters123 : ∀ args w, (callFunc 123 args).run Try.prog w = .ok (.enter 123 args) w := enters_of Try.func123 (by kernel_rfl) rfl

theorem cat_data (a b : ByteArray) : (a ++ b).data.toList = a.data.toList ++ b.data.toList := by simp

theorem cat_fits {bs zs : List Int} {n sh a a' : Nat} {bad bad' : Bool} {s : ByteArray} (hs : s.data.toList = Om.byts zs) (h : Bm.BS bs n a bad zs a' bad') (hn : n ≤ 16 - sh) (hsh : sh ≤ 16) : ¬ 9223372036854775807 < sh + s.size := by
  have := Bm.bs_le h
  have e := congrArg List.length hs
  rw [Om.byts_len, ← Lib.size_eq] at e
  omega

set_option maxHeartbeats 1000000 in
theorem bkey_any (w0 w : World) (g : Nat) (vb : Value) (bs : List Int) (a : Nat) (bad : Bool) (ah : ByteArray) (h : Brd w0 w g vb bs a bad) (hl : bs.length ≤ 140737488355328) (hah : ah.size ≤ 16) :
    Calls Try.prog 122 #[.pointer (some ⟨g, 0, none⟩), .string ah] w fun E w' => ∃ (k : ByteArray) (a' : Nat) (bad' : Bool), E = .returned (.string k) ∧ Brd w0 w' g vb bs a' bad' ∧ w.grownBy w' (some g) ∧ Bm.KS bs a bad ah.data.toList k.data.toList a' bad' := by
  have hal : ah.data.toList.length = ah.size := (Lib.size_eq ah).symm
  go_enter Try.func122, Try.ntmps122
  go_wp2_with fail
  refine (bnum_any w0 w g vb bs a bad ah.size h hl (by omega)).mono ?_
  rintro E w1 ⟨sh, a1, bad1, rfl, r1, gr1, s1⟩
  have hsh := Bm.ss_le s1
  have hsub : (16 : Int) - sh = ((16 - sh : Nat) : Int) := by omega
  have S1 := hide s1
  clear s1 h
  go_wp2_with fail
  refine (bnum_any w0 w1 g vb bs a1 bad1 (16 - sh) r1 hl (by omega)).mono ?_
  rintro E w2 ⟨n, a2, bad2, rfl, r2, gr2, s2⟩
  have hn := Bm.ss_le s2
  have S2 := hide s2
  have R2 := hide r2
  clear s2 r1 r2
  have X : Hid (∀ m, Calls Try.prog 123 #[.pointer (some ⟨g, 0, none⟩), .int .i64 n] (w2.drewN m) fun E w' => ∃ v, E = .returned v ∧ ∃ (s : ByteArray) (zs : List Int) (a' : Nat) (bad' : Bool), v = .string s ∧ s.data.toList = Om.byts zs ∧ Brd w0 w' g vb bs a' bad' ∧ (w2.drewN m).grownBy w' (some g) ∧ Bm.BS bs n a2 bad2 zs a' bad') :=
    hide fun m => (btext_any w0 (w2.drewN m) g vb bs a2 bad2 n (R2.out.below (below_drewN (Below.refl _ _) m)) hl (by omega)).mono (by rintro E w' ⟨s, zs, a', bad', rfl, h⟩; exact ⟨_, rfl, s, zs, a', bad', rfl, h⟩)
  go_wp2_with fail
  go_region_law (refine call_step rfl 123 #[.tmp 19, .tmp 20] #[147, 3] rfl Try.enters123 #[.pointer (some ⟨g, 0, none⟩), .int .i64 n] (by simp [Act.eval, Act.put]) (X.out _) ?_; rintro vv w3 ⟨s, zs, a3, bad3, rfl, hs, r3, gr3, s3⟩; have hss := cat_fits hs s3 hn (by omega))
  all_goals
    have hsz : s.size ≤ 16 := by
      have := Bm.bs_le s3
      have e := congrArg List.length hs
      rw [Om.byts_len, ← Lib.size_eq] at e
      omega
    have hdat : (ah.extract 0 sh ++ s).data.toList = ah.data.toList.take sh ++ Om.byts zs := by rw [← hs]; simp
    have hksz : (ah.extract 0 sh ++ s).size ≤ 32 := by rw [Lib.size_eq, hdat, List.length_append, ← hs, ← Lib.size_eq, List.length_take]; omega
    have gr : w.grownBy w3 (some g) := grown_trans gr1 (grown_trans gr2 (grown_trans (grown_drewN _ 1 _) gr3))
    generalize ah.extract 0 sh ++ s = K at *
    rw [← hal] at S1
    have HK : ∀ bad', bad' = (bad3 || decide (Bm.com ah.data.toList K.data.toList ≠ sh)) → Bm.KS bs a bad ah.data.toList K.data.toList a3 bad' := fun bad' e => ⟨sh, n, zs, a1, bad1, a2, bad2, bad3, S1.out, S2.out, s3, hdat, e⟩
    have HK := hide HK
    clear hdat hs s3 gr1 gr2 gr3 X hss
    have f2 := r3.froz 2
    cases bad3
    · have c2 := r3.good
      have R3 := hide r3
      clear r3
      go_wp2_with fail
      refine (shared_any ah K _ (by omega) (by omega)).mono ?_
      rintro E w4 ⟨rfl, bel4⟩
      have r4 := R3.out.below bel4
      have f4 := r4.froz 2
      have d2 := r4.good
      have R4 := hide r4
      have gr4 : w.grownBy w4 (some g) := grown_trans gr (grown_of_below bel4 _)
      clear r4 R3 bel4 gr c2 f2
      by_cases hc : Bm.com ah.data.toList K.data.toList = sh
      · have hb : ((Bm.com ah.data.toList K.data.toList : Int) != (sh : Int)) = false := by rw [hc]; simp
        have HK2 := hide (HK.out false (by simp [hc]))
        clear hc
        go_wp2
        go_ret
        exact ⟨K, a3, false, rfl, R4.out, gr4, HK2.out⟩
      · have hb : ((Bm.com ah.data.toList K.data.toList : Int) != (sh : Int)) = true := by simp; omega
        have HK2 := hide (HK.out true (by simp [hc]))
        clear hc
        go_wp2
        go_ret
        exact ⟨K, a3, true, rfl, R4.out.put2 true, grown_trans gr4 (grown_setCell _ _ _), HK2.out⟩
    · have c2 := r3.evil
      have R3 := hide r3
      clear r3
      go_wp2
      go_ret
      exact ⟨K, a3, true, rfl, R3.out, gr, HK.out true (by simp)⟩

end Go.Proofs.Ytimmohpnlieefaa

/- The contracts of batch's reader's op and of Read. -/
namespace Go.Proofs.Ytimmohpnlieefaa
open Go.RowKit
set_option linter.unusedVariables false

set_option maxHeartbeats 1000000 in
theorem bop_any (w0 w : World) (g : Nat) (vb : Value) (bs : List Int) (a : Nat) (bad : Bool) (ah : ByteArray) (h : Brd w0 w g vb bs a bad) (hl : bs.length ≤ 140737488355328) (hah : ah.size ≤ 16) :
    Calls Try.prog 117 #[.pointer (some ⟨g, 0, none⟩), .string ah] w fun E w' => ∃ (o : Bm.Ov) (a' : Nat) (bad' : Bool), E = .returned (opv o.p o.k o.v) ∧ Brd w0 w' g vb bs a' bad' ∧ w.grownBy w' (some g) ∧ Bm.OS bs a bad ah.data.toList o a' bad' ∧ o.k.size ≤ 16 ∧ o.v.size ≤ 32 := by
  unfold opv
  have hby := h.is.bytes
  have hg := h.lt
  have hw0 := h.2.2.1.size
  obtain ⟨W, hW, szW, belW, blkR⟩ := blk_step w #[.bool false, .string ⟨#[]⟩, .string ⟨#[]⟩] 87
  have r0 := h.below belW
  have grW := grown_of_below belW (some g)
  have HBY := hide hby
  clear h hby
  go_enter Try.func117, Try.ntmps117
  go_wp2_with fail
  refine (bnum_any w0 W g vb bs a bad 1 r0 hl (by omega)).mono ?_
  rintro E w1 ⟨mark, a1, bad1, rfl, r1, gr1, s1⟩
  have sz1 := gr1.size
  have blkR1 := (gr1.block w.heap.size (by omega) (by simp; omega)).trans blkR
  have hmark := Bm.ss_le s1
  have grA : w.grownBy w1 (some g) := grown_trans grW gr1
  clear r0 grW gr1 blkR belW hW
  rcases (show mark = 0 ∨ mark = 1 by omega) with rfl | rfl
  · have S1 := hide s1
    clear s1
    go_wp2_with fail
    refine (bkey_any w0 w1 g vb bs a1 bad1 ah r1 hl hah).mono ?_
    rintro E w2 ⟨k, a2, bad2, rfl, r2, gr2, ks⟩
    have sz2 := gr2.size
    have blkR2 := (gr2.block w.heap.size (by omega) (by simp; omega)).trans blkR1
    obtain ⟨W3, hW3, sz3, bel3, blkO⟩ := blk_step w2 #[.bool false, .string k, .string ⟨#[]⟩] 87
    have O0 := blk_froz blkO 0
    have O1 := blk_froz blkO 1
    have O2 := blk_froz blkO 2
    have x0 : W3.setCell ⟨w2.heap.size, 0, none⟩ (.bool false) = W3 := set_same blkO (j := 0) rfl
    have x1 : W3.setCell ⟨w2.heap.size, 1, none⟩ (.string k) = W3 := set_same blkO (j := 1) rfl
    have x2 : W3.setCell ⟨w2.heap.size, 2, none⟩ (.string ⟨#[]⟩) = W3 := set_same blkO (j := 2) rfl
    have r3 := r2.below bel3
    have blkR3 := (bel3.block w.heap.size (by omega)).trans blkR2
    have o0 : W3.cell? ⟨w2.heap.size, 0, none⟩ = some (.bool false) := blk_cell blkO 0 rfl
    have o1 : W3.cell? ⟨w2.heap.size, 1, none⟩ = some (.string k) := blk_cell blkO 1 rfl
    have o2 : W3.cell? ⟨w2.heap.size, 2, none⟩ = some (.string ⟨#[]⟩) := blk_cell blkO 2 rfl
    have R0 : W3.cell? ⟨w.heap.size, 0, none⟩ = some (.bool false) := blk_cell blkR3 0 rfl
    have R1 : W3.cell? ⟨w.heap.size, 1, none⟩ = some (.string ⟨#[]⟩) := blk_cell blkR3 1 rfl
    have R2 : W3.cell? ⟨w.heap.size, 2, none⟩ = some (.string ⟨#[]⟩) := blk_cell blkR3 2 rfl
    have F0 := blk_froz blkR3 0
    have F1 := blk_froz blkR3 1
    have F2 := blk_froz blkR3 2
    obtain ⟨V', hV', bV', gV'⟩ := put3 blkR3 (.bool false) (.string k) (.string ⟨#[]⟩)
    have k0 : V'.cell? ⟨w.heap.size, 0, none⟩ = some (.bool false) := blk_cell bV' 0 rfl
    have k1 : V'.cell? ⟨w.heap.size, 1, none⟩ = some (.string k) := blk_cell bV' 1 rfl
    have k2 : V'.cell? ⟨w.heap.size, 2, none⟩ = some (.string ⟨#[]⟩) := blk_cell bV' 2 rfl
    have grB : w.grownBy V' (some g) := grown_fresh (grown_trans (grown_trans grA gr2) (grown_of_below bel3 _)) gV' (Nat.le_refl _)
    have rV : Brd w0 V' g vb bs a2 bad2 := r3.grown gV' hw0 (by omega)
    have hOS : Bm.OS bs a bad ah.data.toList ⟨false, k, ⟨#[]⟩⟩ a2 bad2 := Bm.ks_del HBY.out S1.out ks rfl rfl rfl
    have hkl := Bm.ks_len ks (by rw [← Lib.size_eq]; exact hah)
    rw [← Lib.size_eq] at hkl
    have RV := hide rV
    have OS := hide hOS
    clear ks r1 r2 r3 blkR1 blkR2 blkR3 blkO bV' gV' rV hOS grA gr2 bel3
    go_wp2
    refine bodyPost_ret (v := .agg #[.bool false, .string k, .string ⟨#[]⟩]) (by simp [results, Try.results117, go_sem, k0, k1, k2]) rfl ?_
    exact ⟨⟨false, k, ⟨#[]⟩⟩, a2, bad2, rfl, RV.out, grB, OS.out, hkl, by simp [ByteArray.size]⟩
  · have S1 := hide s1
    clear s1
    go_wp2_with fail
    refine (bkey_any w0 w1 g vb bs a1 bad1 ah r1 hl hah).mono ?_
    rintro E w2 ⟨k, a2, bad2, rfl, r2, gr2, ks⟩
    have sz2 := gr2.size
    have blkR2 := (gr2.block w.heap.size (by omega) (by simp; omega)).trans blkR1
    obtain ⟨W3, hW3, sz3, bel3, blkO⟩ := blk_step w2 #[.bool true, .string k, .string ⟨#[]⟩] 87
    have O0 := blk_froz blkO 0
    have O1 := blk_froz blkO 1
    have O2 := blk_froz blkO 2
    have x0 : W3.setCell ⟨w2.heap.size, 0, none⟩ (.bool true) = W3 := set_same blkO (j := 0) rfl
    have x1 : W3.setCell ⟨w2.heap.size, 1, none⟩ (.string k) = W3 := set_same blkO (j := 1) rfl
    have x2 : W3.setCell ⟨w2.heap.size, 2, none⟩ (.string ⟨#[]⟩) = W3 := set_same blkO (j := 2) rfl
    have r3 := r2.below bel3
    have blkR3 := (bel3.block w.heap.size (by omega)).trans blkR2
    have o0 : W3.cell? ⟨w2.heap.size, 0, none⟩ = some (.bool true) := blk_cell blkO 0 rfl
    have o1 : W3.cell? ⟨w2.heap.size, 1, none⟩ = some (.string k) := blk_cell blkO 1 rfl
    have o2 : W3.cell? ⟨w2.heap.size, 2, none⟩ = some (.string ⟨#[]⟩) := blk_cell blkO 2 rfl
    have grB : w.grownBy W3 (some g) := grown_trans (grown_trans grA gr2) (grown_of_below bel3 _)
    have hkl := Bm.ks_len ks (by rw [← Lib.size_eq]; exact hah)
    rw [← Lib.size_eq] at hkl
    have KS := hide ks
    clear ks r1 r2 grA gr2 bel3 blkR1 blkR2
    go_wp2_with fail
    refine (bnum_any w0 W3 g vb bs a2 bad2 32 r3 hl (by omega)).mono ?_
    rintro E w4 ⟨n, a4, bad4, rfl, r4, gr4, s4⟩
    have hn := Bm.ss_le s4
    have sz4 := gr4.size
    have blkR4 := (gr4.block w.heap.size (by omega) (by simp; omega)).trans blkR3
    have blkO4 := (gr4.block w2.heap.size (by omega) (by simp; omega)).trans blkO
    have S4 := hide s4
    clear s4
    go_wp2_with fail
    refine (btext_any w0 w4 g vb bs a4 bad4 n r4 hl (by omega)).mono ?_
    rintro E w5 ⟨s, ys, a5, bad5, rfl, hs, r5, gr5, s5⟩
    have sz5 := gr5.size
    have blkR5 := (gr5.block w.heap.size (by omega) (by simp; omega)).trans blkR4
    have blkO5 := (gr5.block w2.heap.size (by omega) (by simp; omega)).trans blkO4
    have p2 : w5.cell? ⟨w2.heap.size, 2, none⟩ = some (.string ⟨#[]⟩) := blk_cell blkO5 2 rfl
    have q2 := blk_froz blkO5 2
    obtain ⟨W6, hW6⟩ : ∃ W6, w5.setCell ⟨w2.heap.size, 2, none⟩ (.string s) = W6 := ⟨_, rfl⟩
    have blkO6 : W6.heap[w2.heap.size]? = some (.cells #[.bool true, .string k, .string s] 87 (0, 0)) := by rw [← hW6]; exact set_cells blkO5 2 (.string s)
    have gr6 : w5.grownBy W6 (some w2.heap.size) := by rw [← hW6]; exact grown_setCell w5 ⟨w2.heap.size, 2, none⟩ _
    have sz6 := gr6.size
    have blkR6 := (gr6.block w.heap.size (by omega) (by simp; omega)).trans blkR5
    have r6 := r5.grown gr6 (by omega) (by omega)
    have o0 : W6.cell? ⟨w2.heap.size, 0, none⟩ = some (.bool true) := blk_cell blkO6 0 rfl
    have o1 : W6.cell? ⟨w2.heap.size, 1, none⟩ = some (.string k) := blk_cell blkO6 1 rfl
    have o2 : W6.cell? ⟨w2.heap.size, 2, none⟩ = some (.string s) := blk_cell blkO6 2 rfl
    have R0 : W6.cell? ⟨w.heap.size, 0, none⟩ = some (.bool false) := blk_cell blkR6 0 rfl
    have R1 : W6.cell? ⟨w.heap.size, 1, none⟩ = some (.string ⟨#[]⟩) := blk_cell blkR6 1 rfl
    have R2 : W6.cell? ⟨w.heap.size, 2, none⟩ = some (.string ⟨#[]⟩) := blk_cell blkR6 2 rfl
    have F0 := blk_froz blkR6 0
    have F1 := blk_froz blkR6 1
    have F2 := blk_froz blkR6 2
    obtain ⟨V', hV', bV', gV'⟩ := put3 blkR6 (.bool true) (.string k) (.string s)
    have k0 : V'.cell? ⟨w.heap.size, 0, none⟩ = some (.bool true) := blk_cell bV' 0 rfl
    have k1 : V'.cell? ⟨w.heap.size, 1, none⟩ = some (.string k) := blk_cell bV' 1 rfl
    have k2 : V'.cell? ⟨w.heap.size, 2, none⟩ = some (.string s) := blk_cell bV' 2 rfl
    have grC : w.grownBy V' (some g) := grown_fresh (grown_fresh (grown_trans (grown_trans grB gr4) gr5) gr6 (by omega)) gV' (Nat.le_refl _)
    have rV : Brd w0 V' g vb bs a5 bad5 := r6.grown gV' hw0 (by omega)
    have hOS : Bm.OS bs a bad ah.data.toList ⟨true, k, s⟩ a5 bad5 := Bm.ks_put HBY.out S1.out KS.out rfl rfl hs S4.out s5
    have hsl : s.size ≤ 32 := by
      have := Bm.bs_le s5
      have e := congrArg List.length hs
      rw [Om.byts_len, ← Lib.size_eq] at e
      omega
    have RV := hide rV
    have OS := hide hOS
    clear hs s5 r4 r5 r6 rV hOS blkR3 blkR4 blkR5 blkR6 blkO blkO4 blkO5 blkO6 bV' gV' grB gr4 gr5 gr6
    go_wp2
    refine bodyPost_ret (v := .agg #[.bool true, .string k, .string s]) (by simp [results, Try.results117, go_sem, k0, k1, k2]) rfl ?_
    exact ⟨⟨true, k, s⟩, a5, bad5, rfl, RV.out, grC, OS.out, hkl, hsl⟩

/-- An op that is read is small. -/
def SmallO (l : List Bm.Ov) : Prop := ∀ o ∈ l, o.k.size ≤ 16 ∧ o.v.size ≤ 32

theorem SmallO.fit {l : List Bm.Ov} (h : SmallO l) : FitO l := fun o ho => by have := h o ho; omega

theorem SmallO.snoc {l : List Bm.Ov} {o : Bm.Ov} (h : SmallO l) (h1 : o.k.size ≤ 16) (h2 : o.v.size ≤ 32) : SmallO (l ++ [o]) := by
  intro x hx
  rcases List.mem_append.1 hx with hx | hx
  · exact h x hx
  · rw [List.mem_singleton.1 hx]; exact ⟨h1, h2⟩

theorem small_of {l : List Bm.Ov} (h : Bm.chkL l = 0) : SmallO l := by
  intro o ho
  have := Om.chk_ok' ((Bm.chkL_zero h).2.2 o ho)
  simp only [Bm.Ov.kl, Bm.Ov.vl, ← Lib.size_eq] at this
  omega

theorem bres_small {bs : List Int} {l : List Bm.Ov} {n e : Int} (h : Bm.BRes bs l n e) : SmallO l ∧ l.length ≤ 8 := by
  rcases h with ⟨_, h, _⟩ | ⟨_, h, _⟩
  · exact ⟨small_of h, (Bm.chkL_zero h).2.1⟩
  · subst h
    exact ⟨fun o ho => by simp at ho, by simp⟩

set_option maxHeartbeats 1000000 in
theorem bread_any (vb : Value) (bs : List Int) (w : World) (hb : Is .u8 w vb bs) (hl : bs.length ≤ 140737488355328) :
    Calls Try.prog 106 #[vb] w fun E w' => ∃ (vl : Value) (l : List Bm.Ov) (n e : Int), E = .returned (.tuple #[vl, .int .i64 n, .int .i64 e]) ∧ OwnO 87 w.heap.size w' vl l ∧ Bm.BRes bs l n e ∧ Below w.heap.size w w' := by
  obtain ⟨i0, hi, hz0, hz1, hz2⟩ := info_parts Try.info87
  obtain ⟨ao, cap, rfl, _, _⟩ := hb.shape
  obtain ⟨W1, hW1, sz1, bel1, blk1⟩ := blk_step w #[.slice ao bs.length cap, .int .i64 0, .int .i64 0] 144
  have r1 : Brd w W1 w.heap.size (.slice ao bs.length cap) bs 0 false := ⟨hb, by omega, bel1, blk1, by omega⟩
  have c0 : W1.cell? ⟨w.heap.size, 0, none⟩ = some (.slice ao bs.length cap) := blk_cell blk1 0 rfl
  have c1 : W1.cell? ⟨w.heap.size, 1, none⟩ = some (.int .i64 0) := blk_cell blk1 1 rfl
  have c2 : W1.cell? ⟨w.heap.size, 2, none⟩ = some (.int .i64 0) := blk_cell blk1 2 rfl
  have f0 := blk_froz blk1 0
  have f1 := blk_froz blk1 1
  have f2 := blk_froz blk1 2
  have x0 : W1.setCell ⟨w.heap.size, 0, none⟩ (.slice ao bs.length cap) = W1 := set_same blk1 (j := 0) rfl
  have x1 : W1.setCell ⟨w.heap.size, 1, none⟩ (.int .i64 0) = W1 := set_same blk1 (j := 1) rfl
  have x2 : W1.setCell ⟨w.heap.size, 2, none⟩ (.int .i64 0) = W1 := set_same blk1 (j := 2) rfl
  clear blk1
  go_enter Try.func106, Try.ntmps106
  go_wp2_with fail
  refine (bnum_any w W1 w.heap.size _ bs 0 false 8 r1 hl (by omega)).mono ?_
  rintro E w2 ⟨c, a2, bad2, rfl, r2, gr2, s2⟩
  have hc8 := Bm.ss_le s2
  have sz2 := gr2.size
  have LS0 := hide (Bm.ls_start s2)
  clear s2 r1
  go_wp2_with (at_make; refine wpList_make_own _ rfl _ _ 30 rfl (w.heap.size + 1) 87 i0 (.agg #[.bool false, .string ⟨#[]⟩, .string ⟨#[]⟩]) 3 Try.underlying30 hi hz0 hz1 _ _ _ c rfl rfl (by omega) ?b2 ?b3 (by omega) ?_)
  case b2 => rw [hz2]; omega
  case b3 => unfold maxLen; omega
  intro w3 hown3 hgrow3
  have bel3 : Below w2.heap.size w2 w3 := (Below.refl _ _).grown hgrow3 (Nat.le_refl _) (by simp)
  have own3 : OwnO 87 (w.heap.size + 1) w3 (.slice (some ⟨w2.heap.size, 0, none⟩) 0 c) [] := hown3
  have r3 := r2.below bel3
  have sz3 := bel3.size
  clear r2 bel3 hown3 hgrow3 gr2 c0 c1 c2 f0 f1 f2 x0 x1 x2 hW1 bel1
  go_wp2
  go_loopw [2, 7, 15] (fun lv av i wr => ∃ (k : Nat) (l : List Bm.Ov) (ah : ByteArray) (a : Nat) (bad : Bool), k ≤ c ∧ i = .int .i64 k ∧ av = .string ah ∧ ah.size ≤ 16 ∧ l.length = k ∧ Hid (SmallO l) ∧ OwnO 87 (w.heap.size + 1) wr lv l ∧ Brd w wr w.heap.size (.slice ao bs.length cap) bs a bad ∧ Hid (Bm.LS bs c l a bad ah.data.toList)) (fun _ _ i _ => c - (intOf i).toNat)
  case atStart => exact ⟨0, [], ⟨#[]⟩, a2, bad2, by omega, rfl, rfl, by simp [ByteArray.size], rfl, hide (fun o ho => by simp at ho), own3, r3, LS0⟩
  case round =>
    obtain ⟨k, l, ah, a, bad, hk, rfl, rfl, hah, hlk, HS, own, r, L⟩ := hrel
    have hgl := r.lt
    by_cases hlt : k < c
    · have hlt' : (k : Int) < c := by omega
      go_wp2_with fail
      refine (bop_any w wr w.heap.size _ bs a bad ah r hl hah).mono ?_
      rintro E w4 ⟨o, a4, bad4, rfl, r4, gr4, os4, hok, hov⟩
      unfold opv
      have sz4 := gr4.size
      have own4 := own.kept gr4 (by
        rcases hv : Value.ownBlock _ with _ | b
        · exact .inl rfl
        · refine .inr fun e => ?_
          have := own.block b hv
          simp at e
          omega)
      have own4b := own4.block
      have L4 := hide (Bm.ls_step L.out (by omega) os4)
      have HS4 := hide (HS.out.snoc hok hov)
      obtain ⟨w5, hw5, sz5, bel5, blk5⟩ := blk_step w4 #[.bool o.p, .string o.k, .string o.v] 87
      have p0 : w5.cell? ⟨w4.heap.size, 0, none⟩ = some (.bool o.p) := blk_cell blk5 0 rfl
      have p1 : w5.cell? ⟨w4.heap.size, 1, none⟩ = some (.string o.k) := blk_cell blk5 1 rfl
      have p2 : w5.cell? ⟨w4.heap.size, 2, none⟩ = some (.string o.v) := blk_cell blk5 2 rfl
      have q0 := blk_froz blk5 0
      have q1 := blk_froz blk5 1
      have q2 := blk_froz blk5 2
      have x0 : w5.setCell ⟨w4.heap.size, 0, none⟩ (.bool o.p) = w5 := set_same blk5 (j := 0) rfl
      have x1 : w5.setCell ⟨w4.heap.size, 1, none⟩ (.string o.k) = w5 := set_same blk5 (j := 1) rfl
      have x2 : w5.setCell ⟨w4.heap.size, 2, none⟩ (.string o.v) = w5 := set_same blk5 (j := 2) rfl
      have own5 := own4.below bel5
      have r5 := r4.below bel5
      obtain ⟨w6, hw6, sz6, bel6, own6⟩ := ops_step 87 w5 #[.bool o.p, .string o.k, .string o.v] 1 [o] rfl rfl (by simp [maxLen])
      rw [sz5] at own6
      have own7 := own5.below bel6
      have r6 := r5.below bel6
      have blk6 := (bel6.block w4.heap.size (by omega)).trans blk5
      have B6 := hide blk6
      have R6 := hide r6
      clear os4 own own4 own5 r r4 r5 r6 blk5 blk6 bel5 bel6 gr4 L HS
      go_wp2_with (at_builtin; refine wpList_append_ops rfl (.tmp 19) (.tmp 21) 30 rfl 87 (w.heap.size + 1) Try.underlying30 Try.info87 _ l rfl own7 _ [o] rfl own6.is (by simp; omega) (by omega) ?_)
      intro v8 w8 own8 bel8 gr8
      have blk8 := (gr8.block w4.heap.size (by omega) (fun e => by have := own4b _ e.symm; omega)).trans B6.out
      have r8 : Brd w w8 w.heap.size (.slice ao bs.length cap) bs a4 bad4 := by
        obtain ⟨h1, h2, h3, h4, h5⟩ := R6.out
        have hs := h3.size
        exact ⟨h1, h2, h3.trans (bel8.mono (by omega)), (bel8.block w.heap.size (by omega)).trans h4, h5⟩
      have k1 : w8.cell? ⟨w4.heap.size, 1, none⟩ = some (.string o.k) := blk_cell blk8 1 rfl
      clear blk8 own7 own6 gr8 bel8 B6 R6 p0 p1 p2 q0 q1 q2 x0 x1 x2 own4b hw5 hw6
      go_wp2
      go_roundw
      case rel => exact ⟨k + 1, l ++ [o], o.k, a4, bad4, by omega, by go_num, rfl, hok, by simp [hlk], HS4, own8, r8, L4⟩
      case measure => simp [intOf]; omega
    · have hke : k = c := by omega
      have hlt' : ¬ (k : Int) < c := by omega
      have belr : Below w.heap.size w wr := r.2.2.1
      cases bad
      · have e2 := r.good
        have e1 := r.cell1
        have R := hide r
        clear r
        by_cases hc : Bm.chkL l = 0
        · have HR := hide (Bm.ls_end L.out (by omega) hc)
          have HC := hide hc
          clear hc L
          go_wp2_with fail
          refine (bcheck_any _ l _ own.is HS.out.fit (by omega)).mono ?_
          rintro E w9 ⟨rfl, bel9⟩
          rw [HC.out]
          have r9 := R.out.below bel9
          have e19 := r9.cell1
          have own9 := (own.below bel9).rebase (base' := w.heap.size) (by omega)
          have bel10 : Below w.heap.size w w9 := belr.trans (bel9.mono belr.size)
          clear own r9 bel9
          go_wp2_with fail
          go_quiet (fail)
          go_wp2
          refine bodyPost_ret (v := .tuple #[_, .int .i64 (a : Int), .int .i64 0]) (by simp [results, Try.results106, go_sem]; rfl) rfl ?_
          exact ⟨_, l, _, _, rfl, own9.below (below_drewN (Below.refl _ _) nq), HR.out, below_drewN bel10 nq⟩
        · have HR := hide (Bm.ls_bad L.out (fun _ => by omega) (.inr hc))
          obtain ⟨cc, hcc⟩ : ∃ cc, Bm.chkL l = cc := ⟨_, rfl⟩
          have hcb : (cc != 0) = true := by rw [← hcc]; simpa using hc
          have HC := hide hcc
          clear hc L hcc
          go_wp2_with fail
          refine (bcheck_any _ l _ own.is HS.out.fit (by omega)).mono ?_
          rintro E w9 ⟨rfl, bel9⟩
          rw [HC.out]
          have bel10 : Below w.heap.size w w9 := belr.trans (bel9.mono belr.size)
          go_wp2
          refine bodyPost_ret (v := .tuple #[.slice none 0 0, .int .i64 0, .int .i64 5]) (by simp [results, Try.results106, go_sem]) rfl ?_
          exact ⟨_, [], _, _, rfl, OwnO.nil _ _ _, HR.out, bel10⟩
      · have e2 := r.evil
        have HR := hide (Bm.ls_bad L.out (fun h => by simp at h) (.inl rfl))
        clear L r
        go_wp2
        refine bodyPost_ret (v := .tuple #[.slice none 0 0, .int .i64 0, .int .i64 5]) (by simp [results, Try.results106, go_sem]) rfl ?_
        exact ⟨_, [], _, _, rfl, OwnO.nil _ _ _, HR.out, belr⟩

end Go.Proofs.Ytimmohpnlieefaa

/- The contracts of the document's Next and Read of a batch. -/
namespace Go.Proofs.Ytimmohpnlieefaa
open Go.RowKit
set_option linter.unusedVariables false

namespace Bm
open Vm Om

/-- What a reader has come to that began at a0, so many ops being told. -/
def LA (bs : List Int) (a0 c : Nat) (l : List Ov) (a : Nat) (bad : Bool) (ah : List UInt8) : Prop :=
  (bad = false ∧ c ≤ 8 ∧ enc c <+: bs.drop a0 ∧ encL [] l <+: bs.drop (a0 + sz c) ∧ a = a0 + sz c + (encL [] l).length ∧ ah = lst [] l ∧ ∀ o ∈ l, o.shape) ∨ (bad = true ∧ NB (bs.drop a0))

theorem la_start {bs : List Int} {a0 c a : Nat} {bad : Bool} (h : SS bs 8 a0 false c a bad) : LA bs a0 c [] a bad [] := by
  rcases h with ⟨h, _⟩ | ⟨_, h1, _, _, h⟩ | ⟨_, h1, h2, h3, h4⟩
  · simp at h
  · refine .inr ⟨h1, fun m hm hp => ?_⟩
    unfold encB at hp
    rw [pre_app] at hp
    exact h _ (chkL_zero hm).2.1 hp.1
  · refine .inl ⟨h1, h2, h3, by simp [encL], by simp [encL, h4], rfl, by simp⟩

theorem la_step {bs : List Int} {a0 c a a' : Nat} {bad bad' : Bool} {l : List Ov} {ah : List UInt8} {o : Ov} (h : LA bs a0 c l a bad ah) (hl : l.length < c) (g : OS bs a bad ah o a' bad') : LA bs a0 c (l ++ [o]) a' bad' o.kl := by
  rcases h with ⟨rfl, h1, h2, h3, h4, h5, h6⟩ | ⟨rfl, h⟩
  · rcases g with ⟨_, g1, g2, g3, g4⟩ | ⟨g1, g2⟩
    · refine .inl ⟨g1, h1, h2, ?_, ?_, (lst_snoc _ _ _).symm, ?_⟩
      · rw [encL_snoc, pre_app, List.drop_drop, ← h4, ← h5]
        exact ⟨h3, g2⟩
      · rw [encL_snoc, List.length_append, ← h5, g3, h4, Nat.add_assoc]
      · intro x hx
        rcases List.mem_append.1 hx with hx | hx
        · exact h6 x hx
        · rw [List.mem_singleton.1 hx]; exact g4
    · refine .inr ⟨g1, fun m hm hp => ?_⟩
      unfold encB at hp
      rw [pre_app] at hp
      have e := pre_one _ _ _ h2 hp.1
      have hp2 := hp.2
      have hlm : l.length < m.length := by omega
      have hsplit : m = m.take l.length ++ m[l.length] :: m.drop (l.length + 1) := by
        rw [List.getElem_cons_drop, List.take_append_drop]
      rw [hsplit, encL_app, pre_app] at hp2
      have hmem : ∀ x ∈ m.take l.length, x.shape := fun x hx => shapes hm x (List.mem_of_mem_take hx)
      have hsz : (enc m.length).length = sz c := by rw [← e]; rfl
      rw [← hsplit, hsz, List.drop_drop] at hp2
      have e2 := encL_free [] l (m.take l.length) _ (by rw [List.length_take]; omega) h6 hmem h3 hp2.1
      have hp3 := hp2.2
      rw [← e2, List.drop_drop, ← h4, ← h5] at hp3
      show False
      unfold encL at hp3
      rw [pre_app] at hp3
      exact g2 rfl _ ((chkL_zero hm).2.2 _ (List.getElem_mem _)) hp3.1
  · rcases g with ⟨g, _⟩ | ⟨g1, _⟩
    · simp at g
    · exact .inr ⟨g1, h⟩

theorem la_end {bs : List Int} {a0 c a : Nat} {l : List Ov} {ah : List UInt8} (h : LA bs a0 c l a false ah) (hl : l.length = c) (hc : chkL l = 0) : BRes (bs.drop a0) l ((a : Int) - a0) 0 := by
  rcases h with ⟨_, h1, h2, h3, h4, _⟩ | ⟨h, _⟩
  · have e : encB l = enc c ++ encL [] l := by unfold encB; rw [hl]
    refine .inl ⟨rfl, hc, ?_, ?_⟩
    · rw [e, pre_app, List.drop_drop]; exact ⟨h2, h3⟩
    · rw [e, List.length_append, h4]
      unfold sz
      omega
  · simp at h

theorem la_bad {bs : List Int} {a0 c a : Nat} {l : List Ov} {ah : List UInt8} {bad : Bool} (h : LA bs a0 c l a bad ah) (hl : bad = false → l.length = c) (hc : bad = true ∨ chkL l ≠ 0) : BRes (bs.drop a0) [] 0 5 := by
  refine .inr ⟨rfl, rfl, rfl, ?_⟩
  rcases h with ⟨hb, h1, h2, h3, h4, _, h6⟩ | ⟨_, h⟩
  · rcases hc with hc | hc
    · rw [hc] at hb; simp at hb
    · intro m hm hp
      have e : encB l <+: bs.drop a0 := by
        unfold encB
        rw [hl hb, pre_app, List.drop_drop]
        exact ⟨h2, h3⟩
      have := encB_free e hp h6 (shapes hm)
      rw [this] at hc
      exact hc hm
  · exact h

/-- The document's order: the value, then how much is shared. -/
theorem doc_del {bs : List Int} {a a4 sh n : Nat} {bad bad4 bad' : Bool} {ah key : List UInt8} {zs : List Int} {o : Ov} (h : PS bs a bad ah 0 sh n zs a4 bad4) (hp : o.p = false) (hk : o.kl = key) (hkey : key = ah.take sh ++ byts zs) (hv : o.vl = []) (hb : bad' = (bad4 || decide (com ah key ≠ sh))) : OS bs a bad ah o a4 bad' := by
  cases bad4
  · by_cases hc : com ah key = sh
    · have : bad' = false := by rw [hb]; simp [hc]
      rw [this]
      exact os_del h hp (hk.trans hkey) hv (by rw [hk]; exact hc)
    · refine .inr ⟨by rw [hb]; simpa using hc, fun _ => os_com h (by rw [← hkey]; exact hc)⟩
  · rcases h with ⟨h, _⟩ | ⟨_, h⟩
    · simp at h
    · exact .inr ⟨by rw [hb]; rfl, h⟩

theorem doc_put {bs : List Int} (hby : ∀ z ∈ bs, 0 ≤ z ∧ z < 256) {a a4 a5 a6 sh n m : Nat} {bad bad4 bad5 bad6 bad' : Bool} {ah key : List UInt8} {zs ys : List Int} {o : Ov} (h : PS bs a bad ah 1 sh n zs a4 bad4) (hp : o.p = true) (hk : o.kl = key) (hkey : key = ah.take sh ++ byts zs) (hv : o.vl = byts ys)
    (g1 : SS bs 32 a4 bad4 m a5 bad5) (g2 : BS bs m a5 bad5 ys a6 bad6) (hb : bad' = (bad6 || decide (com ah key ≠ sh))) : OS bs a bad ah o a6 bad' := by
  cases bad4
  · by_cases hc : com ah key = sh
    · have : bad' = bad6 := by rw [hb]; simp [hc]
      rw [this]
      exact os_put hby h hp (hk.trans hkey) hv (by rw [hk]; exact hc) g1 g2
    · refine .inr ⟨by rw [hb]; simp [hc], fun _ => os_com h (by rw [← hkey]; exact hc)⟩
  · rcases h with ⟨h, _⟩ | ⟨_, h⟩
    · simp at h
    · exact .inr ⟨by rw [hb, bs_bad g2 (ss_bad g1 rfl)]; rfl, h⟩

/-- What Next comes to. -/
def NX (bs : List Int) (a : Nat) (bad : Bool) (l : List Ov) (a' : Nat) (bad' : Bool) : Prop :=
  (bad = true ∧ bad' = true ∧ l = []) ∨ (bad = false ∧ ((bad' = false ∧ BRes (bs.drop a) l ((a' : Int) - a) 0) ∨ (bad' = true ∧ l = [] ∧ BRes (bs.drop a) [] 0 5)))

end Bm

theorem Rdr.grownB {w0 w w' : World} {g a row : Nat} {vb : Value} {bs : List Int} {bad : Bool} (h : Rdr w0 w g vb bs a bad) (hb : w.grownBy w' (some row)) (hr : w0.heap.size ≤ row) (hne : row ≠ g) : Rdr w0 w' g vb bs a bad :=
  ⟨h.1, h.2.1, h.2.2.1.grown hb h.2.2.1.size (fun k hk => by simp at hk; omega), (hb.block g h.lt (by simp; omega)).trans h.2.2.2.1, h.2.2.2.2⟩

/-- An op that the document's reader has told is not too long. -/
def MidO (l : List Bm.Ov) : Prop := ∀ o ∈ l, o.k.size ≤ 1000 ∧ o.v.size ≤ 32

theorem MidO.fit {l : List Bm.Ov} (h : MidO l) : FitO l := fun o ho => by have := h o ho; omega

theorem MidO.snoc {l : List Bm.Ov} {o : Bm.Ov} (h : MidO l) (h1 : o.k.size ≤ 1000) (h2 : o.v.size ≤ 32) : MidO (l ++ [o]) := by
  intro x hx
  rcases List.mem_append.1 hx with hx | hx
  · exact h x hx
  · rw [List.mem_singleton.1 hx]; exact ⟨h1, h2⟩

/-- One round of the reader: the key's four steps. -/
theorem key_size {ah s : ByteArray} {bs zs : List Int} {sh n a a' : Nat} {bad bad' : Bool} (hs : s.data.toList = Om.byts zs) (hb : Bm.BS bs n a bad zs a' bad') (hn : n ≤ 16) (hsh : sh ≤ ah.size) : (ah.extract 0 sh ++ s).size ≤ ah.size + 16 ∧ (ah.extract 0 sh ++ s).data.toList = ah.data.toList.take sh ++ Om.byts zs := by
  have hdat : (ah.extract 0 sh ++ s).data.toList = ah.data.toList.take sh ++ Om.byts zs := by rw [← hs]; simp
  have := Bm.bs_le hb
  refine ⟨?_, hdat⟩
  rw [Lib.size_eq, hdat, List.length_append, Om.byts_len, List.length_take]
  omega

theorem grown_base {w V V' : World} {row : Option Nat} (h : w.grownBy V row) (hb : Below w.heap.size V V') : w.grownBy V' row :=
  ⟨hb.os.trans h.os, hb.tape.trans h.tape, hb.output.trans h.output, Nat.le_trans h.size hb.size, fun i hi hne => (hb.block i hi).trans (h.block i hi hne)⟩

theorem Rdr.base {w0 w w' : World} {g a B : Nat} {vb : Value} {bs : List Int} {bad : Bool} (h : Rdr w0 w g vb bs a bad) (hb : Below B w w') (h0 : w0.heap.size ≤ B) (hg : g < B) : Rdr w0 w' g vb bs a bad :=
  ⟨h.1, h.2.1, h.2.2.1.trans (hb.mono h0), (hb.block g hg).trans h.2.2.2.1, h.2.2.2.2⟩

/-- A text made of bytes. -/
theorem text_of (zs : List Int) : ∃ s : ByteArray, (⟨(Om.byts zs).toArray⟩ : ByteArray) = s ∧ s.data.toList = Om.byts zs := ⟨_, rfl, rfl⟩

set_option maxRecDepth 100000 in
set_option maxHeartbeats 4000000 in
theorem bnextR_any (w0 w : World) (g : Nat) (vb : Value) (bs : List Int) (a : Nat) (bad : Bool) (h : Rdr w0 w g vb bs a bad) (hl : bs.length ≤ 140737488355328) :
    Calls Try.prog 86 #[.pointer (some ⟨g, 0, none⟩)] w fun E w' => ∃ (vl : Value) (l : List Bm.Ov) (a' : Nat) (bad' : Bool), E = .returned vl ∧ OwnO 87 w.heap.size w' vl l ∧ Rdr w0 w' g vb bs a' bad' ∧ w.grownBy w' (some g) ∧ Bm.NX bs a bad l a' bad' := by
  have hgl := h.lt
  have hw0 := h.2.2.1.size
  have HBY := hide h.is.bytes
  go_enter Try.func86, Try.ntmps86
  go_wp2_with fail
  refine (rsmall_any w0 w g vb bs a bad 8 h (by omega) (by omega)).mono ?_
  rintro E w1 ⟨c, a1, bad1, rfl, r1, gr1, s1⟩
  have hc8 := Bm.ss_le s1
  cases bad
  · have L1 := hide (Bm.la_start s1)
    clear s1 h
    go_wp2
    go_loopw [3, 4, 5] (fun lv av nv wr => ∃ (k : Nat) (l : List Bm.Ov) (ah : ByteArray) (a' : Nat) (bad' : Bool), k + l.length = c ∧ nv = .int .i64 k ∧ av = .string ah ∧ ah.size ≤ 16 * l.length ∧ Hid (MidO l) ∧ OwnO 87 w.heap.size wr lv l ∧ Rdr w0 wr g vb bs a' bad' ∧ w.grownBy wr (some g) ∧ Hid (Bm.LA bs a c l a' bad' ah.data.toList)) (fun _ _ nv _ => (intOf nv).toNat)
    case atStart => exact ⟨c, [], ⟨#[]⟩, a1, bad1, rfl, rfl, rfl, by simp [ByteArray.size], hide (fun o ho => by simp at ho), OwnO.nil _ _ _, r1, gr1, L1⟩
    case round =>
      obtain ⟨k, l, ah, a2, bad2, hk, rfl, rfl, hah, HM, own, r, gr, L⟩ := hrel
      have c2 := r.cell2
      have szr := gr.size
      by_cases hk0 : k = 0
      · subst hk0
        cases bad2
        · have f2 := r.froz 2
          have R := hide r
          have hlc : l.length = c := by omega
          clear r
          by_cases hc : Bm.chkL l = 0
          · have HB := hide (Bm.la_end L.out hlc hc)
            have HC := hide hc
            clear hc L
            go_wp2_with fail
            refine (bcheckR_any _ l _ own.is HM.out.fit (by omega)).mono ?_
            rintro E w9 ⟨rfl, bel9⟩
            rw [HC.out]
            have own9 := own.below bel9
            have R9 := hide (R.out.below bel9)
            have gr9 : w.grownBy w9 (some g) := grown_trans gr (grown_of_below bel9 _)
            clear own R gr bel9
            go_wp2
            go_ret
            exact ⟨_, l, a2, false, rfl, own9, R9.out, gr9, .inr ⟨rfl, .inl ⟨rfl, HB.out⟩⟩⟩
          · have HB := hide (Bm.la_bad L.out (fun _ => hlc) (.inr hc))
            obtain ⟨cc, hcc⟩ : ∃ cc, Bm.chkL l = cc := ⟨_, rfl⟩
            have hcb : (cc != 0) = true := by rw [← hcc]; simpa using hc
            have HC := hide hcc
            clear hc L hcc
            go_wp2_with fail
            refine (bcheckR_any _ l _ own.is HM.out.fit (by omega)).mono ?_
            rintro E w9 ⟨rfl, bel9⟩
            rw [HC.out]
            have r9 := R.out.below bel9
            have d2 := r9.cell2
            have e2 := r9.froz 2
            have R9 := hide r9
            have gr9 : w.grownBy w9 (some g) := grown_trans gr (grown_of_below bel9 _)
            clear own R gr bel9 r9
            go_wp2
            go_ret
            exact ⟨_, [], a2, true, rfl, OwnO.nil _ _ _, R9.out.put2 true, grown_trans gr9 (grown_setCell _ _ _), .inr ⟨rfl, .inr ⟨rfl, rfl, HB.out⟩⟩⟩
        · have f2 := r.froz 2
          have HB := hide (Bm.la_bad L.out (fun h => by simp at h) (.inl rfl))
          have R := hide r
          clear L r own
          go_wp2
          go_ret
          exact ⟨_, [], a2, true, rfl, OwnO.nil _ _ _, R.out.put2 true, grown_trans gr (grown_setCell _ _ _), .inr ⟨rfl, .inr ⟨rfl, rfl, HB.out⟩⟩⟩
      · cases bad2
        · have hkp : (0 : Int) < (k : Int) := by omega
          go_wp2_with fail
          refine (rsmall_any w0 wr g vb bs a2 false 1 r (by omega) (by omega)).mono ?_
          rintro E w3 ⟨kind, a3, bad3, rfl, r3, gr3, s3⟩
          have hkind := Bm.ss_le s3
          go_wp2_with fail
          refine (rsmall_any w0 w3 g vb bs a3 bad3 ah.size r3 (by omega) (by omega)).mono ?_
          rintro E w4 ⟨sh, a4, bad4, rfl, r4, gr4, s4⟩
          have hsh := Bm.ss_le s4
          go_wp2_with fail
          refine (rsmall_any w0 w4 g vb bs a4 bad4 16 r4 (by omega) (by omega)).mono ?_
          rintro E w5 ⟨n, a5, bad5, rfl, r5, gr5, s5⟩
          have hn := Bm.ss_le s5
          go_wp2_with fail
          refine (rbytes_any w0 w5 g vb bs a5 bad5 n r5 (by omega) (by omega)).mono ?_
          rintro E w6 ⟨v6, zs, a6, bad6, rfl, own6, r6, gr6, s6⟩
          have hc0 := (own6.is.drewN 1).conv Try.underlying37 Try.underlying5 Try.underlying9
          have hcz := ((own6.is.below (w' := w6.alloc (.cells #[.bool false, .string ⟨#[]⟩, .string ⟨#[]⟩] 87)) ((Below.refl _ _).alloc (Nat.le_refl _) _)).drewN 1).conv Try.underlying37 Try.underlying5 Try.underlying9
          obtain ⟨s, hs, hsd⟩ := text_of zs
          rw [hs] at hc0 hcz
          have hc1 : (convert 37 9 v6).run Try.prog w6.drew = .ok (.string s) w6.drew := hc0
          have hc2 : (convert 37 9 v6).run Try.prog (w6.alloc (.cells #[.bool false, .string ⟨#[]⟩, .string ⟨#[]⟩] 87)).drew = .ok (.string s) (w6.alloc (.cells #[.bool false, .string ⟨#[]⟩, .string ⟨#[]⟩] 87)).drew := hcz
          clear hc0 hcz
          obtain ⟨hks, hkd⟩ := key_size (ah := ah) hsd s6 hn hsh
          have hss : s.size ≤ 16 := by
            have := Bm.bs_le s6
            rw [Lib.size_eq, hsd, Om.byts_len]
            omega
          have hcat : ¬ 9223372036854775807 < sh + s.size := by omega
          have hal : ah.data.toList.length = ah.size := (Lib.size_eq ah).symm
          have hPS := Bm.pstep HBY.out s3 (by rw [hal]; exact s4) s5 s6 (.inl rfl)
          have PS := hide hPS
          have grA : w.grownBy w6 (some g) := grown_trans gr (grown_trans gr3 (grown_trans gr4 (grown_trans gr5 gr6)))
          have ownA := ((((own.keptg gr3 hgl).keptg gr4 hgl).keptg gr5 hgl).keptg gr6 hgl)
          have R6 := hide r6
          have szA := grA.size
          clear hPS s3 s4 s5 s6 r r3 r4 r5 r6 gr3 gr4 gr5 gr6 gr own own6 hs hsd c2
          rcases (show kind = 0 ∨ kind = 1 by omega) with rfl | rfl
          · obtain ⟨W7, hW7, sz7, bel7, blk7⟩ := blk_step w6 #[.bool false, .string (ah.extract 0 sh ++ s), .string ⟨#[]⟩] 87
            have p0 : W7.cell? ⟨w6.heap.size, 0, none⟩ = some (.bool false) := blk_cell blk7 0 rfl
            have p1 : W7.cell? ⟨w6.heap.size, 1, none⟩ = some (.string (ah.extract 0 sh ++ s)) := blk_cell blk7 1 rfl
            have p2 : W7.cell? ⟨w6.heap.size, 2, none⟩ = some (.string ⟨#[]⟩) := blk_cell blk7 2 rfl
            have q0 := blk_froz blk7 0
            have q1 := blk_froz blk7 1
            have q2 := blk_froz blk7 2
            have x0 : W7.setCell ⟨w6.heap.size, 0, none⟩ (.bool false) = W7 := set_same blk7 (j := 0) rfl
            have x1 : W7.setCell ⟨w6.heap.size, 1, none⟩ (.string (ah.extract 0 sh ++ s)) = W7 := set_same blk7 (j := 1) rfl
            have x2 : W7.setCell ⟨w6.heap.size, 2, none⟩ (.string ⟨#[]⟩) = W7 := set_same blk7 (j := 2) rfl
            go_wp2_with fail
            go_region
            all_goals
              have r7 := R6.out.below bel7
              have RW := hide (r7.below (below_drewN (Below.refl _ _) 1))
              have BW : Hid (W7.drew.heap[w6.heap.size]? = some (.cells #[.bool false, .string (ah.extract 0 sh ++ s), .string ⟨#[]⟩] 87 (0, 0))) := hide blk7
              have ownW : OwnO 87 w.heap.size W7.drew _ l := (ownA.below bel7).below (below_drewN (Below.refl _ _) 1)
              have grW : w.grownBy W7.drew (some g) := grown_trans (grown_trans grA (grown_of_below bel7 _)) (grown_drewN _ 1 _)
              have own6b := ownA.block
              clear blk7 bel7 ownA grA r7 R6 x0 x1 x2 q0 q1 q2 p0 p1 p2 hc1 hc2 hcat hW7
              generalize ah.extract 0 sh ++ s = K at *
              have HKD := hide hkd
              clear hkd
              have k1 : W7.drew.cell? ⟨w6.heap.size, 1, none⟩ = some (.string K) := blk_cell BW.out 1 rfl
              go_wp2_with fail
              refine (sharedR_any ah K _ (by omega) (by omega)).mono ?_
              rintro E w9 ⟨rfl, bel9⟩
              have r9 := RW.out.below bel9
              have B9 := hide ((bel9.block w6.heap.size (blk_lt BW.out)).trans BW.out)
              have own9 := ownW.below bel9
              have gr9 : w.grownBy w9 (some g) := grown_trans grW (grown_of_below bel9 _)
              have d2 := r9.cell2
              have f2 := r9.froz 2
              have R9 := hide r9
              clear r9 bel9 k1 RW BW ownW grW
              by_cases hc : Bm.com ah.data.toList K.data.toList = sh
              · have hb : ((Bm.com ah.data.toList K.data.toList : Int) != (sh : Int)) = false := by rw [hc]; simp
                have OS := hide (Bm.doc_del (o := ⟨false, K, ⟨#[]⟩⟩) (key := K.data.toList) (bad' := bad6) PS.out rfl rfl HKD.out rfl (by simp [hc]))
                have RX := R9
                have BX := B9
                have ownX := own9
                have grX := gr9
                clear hc R9 B9 own9 gr9
                have p0 : w9.cell? ⟨w6.heap.size, 0, none⟩ = some (.bool false) := blk_cell BX.out 0 rfl
                have p1 : w9.cell? ⟨w6.heap.size, 1, none⟩ = some (.string K) := blk_cell BX.out 1 rfl
                have p2 : w9.cell? ⟨w6.heap.size, 2, none⟩ = some (.string ⟨#[]⟩) := blk_cell BX.out 2 rfl
                have hXl := blk_lt BX.out
                obtain ⟨wY, hwY, szY, belY, ownY⟩ := ops_step 87 w9 #[.bool false, .string K, .string ⟨#[]⟩] 1 [⟨false, K, ⟨#[]⟩⟩] rfl rfl (by simp [maxLen])
                have ownX' := ownX.below belY
                have BY := hide ((belY.block w6.heap.size hXl).trans BX.out)
                have RY := hide (RX.out.below belY)
                have grY : w.grownBy wY (some g) := grown_trans grX (grown_of_below belY _)
                have L4 := hide (Bm.la_step L.out (by omega) (OS.out))
                have HM4 := hide (HM.out.snoc (o := ⟨false, K, ⟨#[]⟩⟩) (show K.size ≤ 1000 by omega) (show ByteArray.size ⟨#[]⟩ ≤ 32 by simp [ByteArray.size]))
                have szX := grX.size
                clear ownX belY grX BX RX L HM
                go_wp2_with (at_builtin; refine wpList_append_ops rfl (.tmp 59) (.tmp 61) 30 rfl 87 w.heap.size Try.underlying30 Try.info87 _ l rfl ownX' _ [⟨false, K, ⟨#[]⟩⟩] rfl ownY.is (by simp; omega) (by omega) ?_)
                intro vZ wZ ownZ belZ grZ
                have BZ := (grZ.block w6.heap.size (by omega) (fun e => by have := own6b _ e.symm; omega)).trans BY.out
                have k1 : wZ.cell? ⟨w6.heap.size, 1, none⟩ = some (.string K) := blk_cell BZ 1 rfl
                have rZ := RY.out.base belZ hw0 hgl
                have grZ' := grown_base grY belZ
                clear BZ BY RY grY belZ grZ ownX' ownY p0 p1 p2 own6b hwY
                go_wp2
                go_roundw
                case rel => exact ⟨k - 1, l ++ [⟨false, K, ⟨#[]⟩⟩], K, a6, bad6, by simp; omega, congrArg (Value.int .i64) (by omega), rfl, by simp; omega, HM4, ownZ, rZ, grZ', L4⟩
                case measure => simp [intOf]; omega
              · have hb : ((Bm.com ah.data.toList K.data.toList : Int) != (sh : Int)) = true := by simp; omega
                have OS := hide (Bm.doc_del (o := ⟨false, K, ⟨#[]⟩⟩) (key := K.data.toList) (bad' := true) PS.out rfl rfl HKD.out rfl (by simp [hc]))
                obtain ⟨wX, hwX⟩ : ∃ wX, w9.setCell ⟨g, 2, none⟩ (.bool true) = wX := ⟨_, rfl⟩
                have grS : w9.grownBy wX (some g) := by rw [← hwX]; exact grown_setCell w9 ⟨g, 2, none⟩ _
                have RX : Hid (Rdr w0 wX g vb bs a6 true) := hide (by rw [← hwX]; exact R9.out.put2 true)
                have BX := hide ((grS.block w6.heap.size (blk_lt B9.out) (by simp; omega)).trans B9.out)
                have ownX := own9.keptg grS hgl
                have grX := grown_trans gr9 grS
                clear hc R9 B9 own9 gr9 grS
                have p0 : wX.cell? ⟨w6.heap.size, 0, none⟩ = some (.bool false) := blk_cell BX.out 0 rfl
                have p1 : wX.cell? ⟨w6.heap.size, 1, none⟩ = some (.string K) := blk_cell BX.out 1 rfl
                have p2 : wX.cell? ⟨w6.heap.size, 2, none⟩ = some (.string ⟨#[]⟩) := blk_cell BX.out 2 rfl
                have hXl := blk_lt BX.out
                obtain ⟨wY, hwY, szY, belY, ownY⟩ := ops_step 87 wX #[.bool false, .string K, .string ⟨#[]⟩] 1 [⟨false, K, ⟨#[]⟩⟩] rfl rfl (by simp [maxLen])
                have ownX' := ownX.below belY
                have BY := hide ((belY.block w6.heap.size hXl).trans BX.out)
                have RY := hide (RX.out.below belY)
                have grY : w.grownBy wY (some g) := grown_trans grX (grown_of_below belY _)
                have L4 := hide (Bm.la_step L.out (by omega) (OS.out))
                have HM4 := hide (HM.out.snoc (o := ⟨false, K, ⟨#[]⟩⟩) (show K.size ≤ 1000 by omega) (show ByteArray.size ⟨#[]⟩ ≤ 32 by simp [ByteArray.size]))
                have szX := grX.size
                clear ownX belY grX BX RX L HM
                go_wp2_with (at_builtin; refine wpList_append_ops rfl (.tmp 59) (.tmp 61) 30 rfl 87 w.heap.size Try.underlying30 Try.info87 _ l rfl ownX' _ [⟨false, K, ⟨#[]⟩⟩] rfl ownY.is (by simp; omega) (by omega) ?_)
                intro vZ wZ ownZ belZ grZ
                have BZ := (grZ.block w6.heap.size (by omega) (fun e => by have := own6b _ e.symm; omega)).trans BY.out
                have k1 : wZ.cell? ⟨w6.heap.size, 1, none⟩ = some (.string K) := blk_cell BZ 1 rfl
                have rZ := RY.out.base belZ hw0 hgl
                have grZ' := grown_base grY belZ
                clear BZ BY RY grY belZ grZ ownX' ownY p0 p1 p2 own6b hwY
                go_wp2
                go_roundw
                case rel => exact ⟨k - 1, l ++ [⟨false, K, ⟨#[]⟩⟩], K, a6, true, by simp; omega, congrArg (Value.int .i64) (by omega), rfl, by simp; omega, HM4, ownZ, rZ, grZ', L4⟩
                case measure => simp [intOf]; omega
          · obtain ⟨W7, hW7, sz7, bel7, blk7⟩ := blk_step w6 #[.bool true, .string (ah.extract 0 sh ++ s), .string ⟨#[]⟩] 87
            have p0 : W7.cell? ⟨w6.heap.size, 0, none⟩ = some (.bool true) := blk_cell blk7 0 rfl
            have p1 : W7.cell? ⟨w6.heap.size, 1, none⟩ = some (.string (ah.extract 0 sh ++ s)) := blk_cell blk7 1 rfl
            have p2 : W7.cell? ⟨w6.heap.size, 2, none⟩ = some (.string ⟨#[]⟩) := blk_cell blk7 2 rfl
            have q0 := blk_froz blk7 0
            have q1 := blk_froz blk7 1
            have q2 := blk_froz blk7 2
            have x0 : W7.setCell ⟨w6.heap.size, 0, none⟩ (.bool true) = W7 := set_same blk7 (j := 0) rfl
            have x1 : W7.setCell ⟨w6.heap.size, 1, none⟩ (.string (ah.extract 0 sh ++ s)) = W7 := set_same blk7 (j := 1) rfl
            have x2 : W7.setCell ⟨w6.heap.size, 2, none⟩ (.string ⟨#[]⟩) = W7 := set_same blk7 (j := 2) rfl
            go_wp2_with fail
            go_region
            all_goals
              have r7 := (R6.out.below bel7).below (below_drewN (Below.refl _ _) 1)
              have B7 : Hid (W7.drew.heap[w6.heap.size]? = some (.cells #[.bool true, .string (ah.extract 0 sh ++ s), .string ⟨#[]⟩] 87 (0, 0))) := hide blk7
              have own7 : OwnO 87 w.heap.size W7.drew _ l := (ownA.below bel7).below (below_drewN (Below.refl _ _) 1)
              have gr7 : w.grownBy W7.drew (some g) := grown_trans (grown_trans grA (grown_of_below bel7 _)) (grown_drewN _ 1 _)
              have own6b := ownA.block
              clear blk7 bel7 ownA grA R6 x0 x1 x2 q0 q1 q2 p0 p1 p2 hc1 hc2 hcat hW7
              generalize ah.extract 0 sh ++ s = K at *
              have HKD := hide hkd
              clear hkd
              go_wp2_with fail
              refine (rsmall_any w0 W7.drew g vb bs a6 bad6 32 r7 (by omega) (by omega)).mono ?_
              rintro E w8 ⟨m, a8, bad8, rfl, r8, gr8, s8⟩
              have hm32 := Bm.ss_le s8
              have B8 := hide ((gr8.block w6.heap.size (blk_lt B7.out) (by simp; omega)).trans B7.out)
              have own8 := own7.keptg gr8 hgl
              have gr8' := grown_trans gr7 gr8
              clear r7 B7 own7 gr7 gr8
              go_wp2_with fail
              refine (rbytes_any w0 w8 g vb bs a8 bad8 m r8 (by omega) (by omega)).mono ?_
              rintro E wV ⟨vv, ys, aV, badV, rfl, ownv, rV, grV, sV⟩
              have hconv := ownv.is.conv Try.underlying37 Try.underlying5 Try.underlying9
              obtain ⟨vs, hvs, hvd⟩ := text_of ys
              rw [hvs] at hconv
              have hvl : vs.size ≤ 32 := by
                have := Bm.bs_le sV
                rw [Lib.size_eq, hvd, Om.byts_len]
                omega
              have BV := (grV.block w6.heap.size (blk_lt B8.out) (by simp; omega)).trans B8.out
              have t2 : wV.cell? ⟨w6.heap.size, 2, none⟩ = some (.string ⟨#[]⟩) := blk_cell BV 2 rfl
              have u2 := blk_froz BV 2
              obtain ⟨wW, hwW⟩ : ∃ wW, wV.setCell ⟨w6.heap.size, 2, none⟩ (.string vs) = wW := ⟨_, rfl⟩
              have grS : wV.grownBy wW (some w6.heap.size) := by rw [← hwW]; exact grown_setCell wV ⟨w6.heap.size, 2, none⟩ _
              have BW : Hid (wW.heap[w6.heap.size]? = some (.cells #[.bool true, .string K, .string vs] 87 (0, 0))) := hide (by rw [← hwW]; exact set_cells BV 2 (.string vs))
              have RW := hide (rV.grownB grS (by omega) (by omega))
              have ownW := (own8.keptg grV hgl).kept grS (by
                cases hv : Value.ownBlock _ with
                | none => exact .inl rfl
                | some b =>
                  refine .inr fun e => ?_
                  have := own6b b hv
                  simp at e
                  omega)
              have grW : w.grownBy wW (some g) := grown_fresh (grown_trans gr8' grV) grS (by omega)
              have S8 := hide s8
              have SV := hide sV
              have HVD := hide hvd
              clear hvd
              clear s8 sV r8 rV BV B8 own8 gr8' grV grS ownv hvs
              have k1 : wW.cell? ⟨w6.heap.size, 1, none⟩ = some (.string K) := blk_cell BW.out 1 rfl
              go_wp2_with fail
              refine (sharedR_any ah K _ (by omega) (by omega)).mono ?_
              rintro E w9 ⟨rfl, bel9⟩
              have r9 := RW.out.below bel9
              have B9 := hide ((bel9.block w6.heap.size (blk_lt BW.out)).trans BW.out)
              have own9 := ownW.below bel9
              have gr9 : w.grownBy w9 (some g) := grown_trans grW (grown_of_below bel9 _)
              have d2 := r9.cell2
              have f2 := r9.froz 2
              have R9 := hide r9
              clear r9 bel9 k1 RW BW ownW grW
              by_cases hc : Bm.com ah.data.toList K.data.toList = sh
              · have hb : ((Bm.com ah.data.toList K.data.toList : Int) != (sh : Int)) = false := by rw [hc]; simp
                have OS := hide (Bm.doc_put (o := ⟨true, K, vs⟩) (key := K.data.toList) (bad' := badV) HBY.out PS.out rfl rfl HKD.out HVD.out S8.out SV.out (by simp [hc]))
                have RX := R9
                have BX := B9
                have ownX := own9
                have grX := gr9
                clear hc R9 B9 own9 gr9
                have p0 : w9.cell? ⟨w6.heap.size, 0, none⟩ = some (.bool true) := blk_cell BX.out 0 rfl
                have p1 : w9.cell? ⟨w6.heap.size, 1, none⟩ = some (.string K) := blk_cell BX.out 1 rfl
                have p2 : w9.cell? ⟨w6.heap.size, 2, none⟩ = some (.string vs) := blk_cell BX.out 2 rfl
                have hXl := blk_lt BX.out
                obtain ⟨wY, hwY, szY, belY, ownY⟩ := ops_step 87 w9 #[.bool true, .string K, .string vs] 1 [⟨true, K, vs⟩] rfl rfl (by simp [maxLen])
                have ownX' := ownX.below belY
                have BY := hide ((belY.block w6.heap.size hXl).trans BX.out)
                have RY := hide (RX.out.below belY)
                have grY : w.grownBy wY (some g) := grown_trans grX (grown_of_below belY _)
                have L4 := hide (Bm.la_step L.out (by omega) (OS.out))
                have HM4 := hide (HM.out.snoc (o := ⟨true, K, vs⟩) (show K.size ≤ 1000 by omega) (show ByteArray.size vs ≤ 32 by omega))
                have szX := grX.size
                clear ownX belY grX BX RX L HM
                go_wp2_with (at_builtin; refine wpList_append_ops rfl (.tmp 59) (.tmp 61) 30 rfl 87 w.heap.size Try.underlying30 Try.info87 _ l rfl ownX' _ [⟨true, K, vs⟩] rfl ownY.is (by simp; omega) (by omega) ?_)
                intro vZ wZ ownZ belZ grZ
                have BZ := (grZ.block w6.heap.size (by omega) (fun e => by have := own6b _ e.symm; omega)).trans BY.out
                have k1 : wZ.cell? ⟨w6.heap.size, 1, none⟩ = some (.string K) := blk_cell BZ 1 rfl
                have rZ := RY.out.base belZ hw0 hgl
                have grZ' := grown_base grY belZ
                clear BZ BY RY grY belZ grZ ownX' ownY p0 p1 p2 own6b hwY
                go_wp2
                go_roundw
                case rel => exact ⟨k - 1, l ++ [⟨true, K, vs⟩], K, aV, badV, by simp; omega, congrArg (Value.int .i64) (by omega), rfl, by simp; omega, HM4, ownZ, rZ, grZ', L4⟩
                case measure => simp [intOf]; omega
              · have hb : ((Bm.com ah.data.toList K.data.toList : Int) != (sh : Int)) = true := by simp; omega
                have OS := hide (Bm.doc_put (o := ⟨true, K, vs⟩) (key := K.data.toList) (bad' := true) HBY.out PS.out rfl rfl HKD.out HVD.out S8.out SV.out (by simp [hc]))
                obtain ⟨wX, hwX⟩ : ∃ wX, w9.setCell ⟨g, 2, none⟩ (.bool true) = wX := ⟨_, rfl⟩
                have grS : w9.grownBy wX (some g) := by rw [← hwX]; exact grown_setCell w9 ⟨g, 2, none⟩ _
                have RX : Hid (Rdr w0 wX g vb bs aV true) := hide (by rw [← hwX]; exact R9.out.put2 true)
                have BX := hide ((grS.block w6.heap.size (blk_lt B9.out) (by simp; omega)).trans B9.out)
                have ownX := own9.keptg grS hgl
                have grX := grown_trans gr9 grS
                clear hc R9 B9 own9 gr9 grS
                have p0 : wX.cell? ⟨w6.heap.size, 0, none⟩ = some (.bool true) := blk_cell BX.out 0 rfl
                have p1 : wX.cell? ⟨w6.heap.size, 1, none⟩ = some (.string K) := blk_cell BX.out 1 rfl
                have p2 : wX.cell? ⟨w6.heap.size, 2, none⟩ = some (.string vs) := blk_cell BX.out 2 rfl
                have hXl := blk_lt BX.out
                obtain ⟨wY, hwY, szY, belY, ownY⟩ := ops_step 87 wX #[.bool true, .string K, .string vs] 1 [⟨true, K, vs⟩] rfl rfl (by simp [maxLen])
                have ownX' := ownX.below belY
                have BY := hide ((belY.block w6.heap.size hXl).trans BX.out)
                have RY := hide (RX.out.below belY)
                have grY : w.grownBy wY (some g) := grown_trans grX (grown_of_below belY _)
                have L4 := hide (Bm.la_step L.out (by omega) (OS.out))
                have HM4 := hide (HM.out.snoc (o := ⟨true, K, vs⟩) (show K.size ≤ 1000 by omega) (show ByteArray.size vs ≤ 32 by omega))
                have szX := grX.size
                clear ownX belY grX BX RX L HM
                go_wp2_with (at_builtin; refine wpList_append_ops rfl (.tmp 59) (.tmp 61) 30 rfl 87 w.heap.size Try.underlying30 Try.info87 _ l rfl ownX' _ [⟨true, K, vs⟩] rfl ownY.is (by simp; omega) (by omega) ?_)
                intro vZ wZ ownZ belZ grZ
                have BZ := (grZ.block w6.heap.size (by omega) (fun e => by have := own6b _ e.symm; omega)).trans BY.out
                have k1 : wZ.cell? ⟨w6.heap.size, 1, none⟩ = some (.string K) := blk_cell BZ 1 rfl
                have rZ := RY.out.base belZ hw0 hgl
                have grZ' := grown_base grY belZ
                clear BZ BY RY grY belZ grZ ownX' ownY p0 p1 p2 own6b hwY
                go_wp2
                go_roundw
                case rel => exact ⟨k - 1, l ++ [⟨true, K, vs⟩], K, aV, true, by simp; omega, congrArg (Value.int .i64) (by omega), rfl, by simp; omega, HM4, ownZ, rZ, grZ', L4⟩
                case measure => simp [intOf]; omega
        · have hkp : (0 : Int) < (k : Int) := by omega
          have f2 := r.froz 2
          have HB := hide (Bm.la_bad L.out (fun h => by simp at h) (.inl rfl))
          have R := hide r
          clear L r own
          go_wp2
          go_ret
          exact ⟨_, [], a2, true, rfl, OwnO.nil _ _ _, R.out.put2 true, grown_trans gr (grown_setCell _ _ _), .inr ⟨rfl, .inr ⟨rfl, rfl, HB.out⟩⟩⟩
  · have HS : Hid (bad1 = true ∧ c = 0) := hide (by
      rcases s1 with ⟨_, h1, h2, _⟩ | ⟨h1, _⟩ | ⟨h1, _⟩
      · exact ⟨h1, h2⟩
      · simp at h1
      · simp at h1)
    obtain ⟨hb1, hc0⟩ := HS.out
    subst hb1 hc0
    have c2 := r1.cell2
    have f2 := r1.froz 2
    have R := hide r1
    clear s1 h r1 HS
    go_wp2
    refine wp_loop_rounds 1 ?_
    rw [rounds_succ]
    go_wp2
    go_ret
    exact ⟨_, [], a1, true, rfl, OwnO.nil _ _ _, R.out.put2 true, grown_trans gr1 (grown_setCell _ _ _), .inl ⟨rfl, rfl, rfl⟩⟩

end Go.Proofs.Ytimmohpnlieefaa

/- The contracts of the program's read and Decode of a commit. -/
namespace Go.Proofs.Ytimmohpnlieefaa
open Go.RowKit
set_option linter.unusedVariables false

/-- What read comes to. -/
def RRes (bs : List Int) (e n : Int) (l : List Bm.Ov) (k g : Int) : Prop :=
  (g = 0 ∧ ∃ x y : Nat, x ≤ 1048576 ∧ y ≤ 1048576 ∧ Vm.enc x <+: bs ∧ Vm.enc y <+: bs.drop (Vm.sz x) ∧ Bm.chkL l = 0 ∧ Bm.encB l <+: bs.drop (Vm.sz x + Vm.sz y) ∧ e = x ∧ n = y ∧ k = ((Vm.sz x + Vm.sz y + (Bm.encB l).length : Nat) : Int)) ∨
  (g = 5 ∧ e = 0 ∧ n = 0 ∧ l = [] ∧ k = 0 ∧ ∀ e' n' l', Cm.chk e' n' l' = 0 → Cm.encC e' n' l' ≠ bs)

theorem sres_num {bs : List Int} {u i g : Int} (h : SRes bs 1048576 u i g) :
    (g = 0 ∧ ∃ x s : Nat, x ≤ 1048576 ∧ Vm.enc x <+: bs ∧ Vm.sz x = s ∧ u = x ∧ i = s ∧ s ≤ bs.length ∧ s ≤ 10) ∨ (g = 5 ∧ u = 0 ∧ i = 0 ∧ Cm.NoNum bs) := by
  rcases h with ⟨hR, _, h2, rfl⟩ | ⟨rfl, rfl, rfl, x, n, e, hR, hx⟩
  · have hb := Vm.res_bounds hR
    rcases hR with ⟨x, h3, h4, rfl, rfl, _⟩ | ⟨_, _, _, h⟩
    · exact .inl ⟨rfl, x, _, by omega, h4, rfl, rfl, rfl, by omega, by omega⟩
    · simp at h
  · refine .inr ⟨rfl, rfl, rfl, fun y hy hp => ?_⟩
    obtain ⟨e1, e2, e3⟩ := Vm.res_good hR (by omega) hp
    omega

set_option maxHeartbeats 1000000 in
theorem cread_any (vb : Value) (bs : List Int) (w : World) (hb : Is .u8 w vb bs) (hl : bs.length ≤ 140737488355328) :
    Calls Try.prog 96 #[vb] w fun E w' => ∃ (e n k g : Int) (v : Value) (l : List Bm.Ov), E = .returned (.tuple #[cmv e n v, .int .i64 k, .int .i64 g]) ∧ OwnO 87 w.heap.size w' v l ∧ RRes bs e n l k g ∧ Below w.heap.size w w' := by
  unfold cmv
  obtain ⟨w1, hw1, sz1, bel1, hB⟩ := blk_step w #[.int .i64 0, .int .i64 0, .slice none 0 0] 32
  have hb1 := hb.below bel1
  obtain ⟨u, i, g, hS⟩ := sres_is bs 1048576
  obtain ⟨ao, cap, rfl, _, _⟩ := hb.shape
  obtain ⟨Z, hZ, bZ, gZ, ⟨a0, a1, a2⟩, ⟨f0, f1, f2⟩, ⟨z0, z1, z2⟩⟩ := res_step hB (.int .i64 0) (.int .i64 0) (.slice none 0 0)
  have belZ := below_put bel1 gZ (Nat.le_refl _) (by omega)
  have HB := hide hB
  have HS := hide hS
  clear hB bZ gZ
  go_enter Try.func96, Try.ntmps96
  go_wp2_with fail
  refine (small_any _ bs 1048576 u i g _ hb1 (by omega) (by omega) (by omega) HS.out).mono ?_
  rintro E w2 ⟨rfl, rfl⟩
  rcases sres_num HS.out with ⟨rfl, x, s, hx, px, hsx, rfl, rfl, hsl, hs10⟩ | ⟨rfl, rfl, rfl, hN⟩
  · obtain ⟨vs, hvs, isl⟩ := hb1.slice_l Try.elemP Try.sizeP s hsl
    obtain ⟨u, i, g, hS2⟩ := sres_is (bs.drop s) 1048576
    have HX : Hid (Vm.enc x <+: bs ∧ Vm.sz x = s) := ⟨px, hsx⟩
    have HS2 := hide hS2
    clear px hsx hS2 HS
    go_wp2_with fail
    refine (small_any _ _ 1048576 u i g _ isl (by rw [List.length_drop]; omega) (by omega) (by omega) HS2.out).mono ?_
    rintro E w2 ⟨rfl, rfl⟩
    rcases sres_num HS2.out with ⟨rfl, y, r, hy, py, hsy, rfl, rfl, hrl, hr10⟩ | ⟨rfl, rfl, rfl, hN⟩
    · rw [List.length_drop] at hrl
      obtain ⟨vr, hvr, isr⟩ := hb1.slice_l Try.elemP Try.sizeP (s + r) (by omega)
      have HY : Hid (Vm.enc y <+: bs.drop s ∧ Vm.sz y = r) := ⟨py, hsy⟩
      push_cast at hvr
      clear py hsy HS2
      go_wp2_with fail
      refine (bread_any vr _ _ isr (by rw [List.length_drop]; omega)).mono ?_
      rintro E w3 ⟨vl, l, k, e, rfl, ownl, hR, bel3⟩
      have sz3 := bel3.size
      have hB3 := (bel3.block w.heap.size (by omega)).trans HB.out
      have bel03 := bel1.trans (bel3.mono (by omega))
      obtain ⟨px, hsx⟩ := HX.out
      obtain ⟨py, hsy⟩ := HY.out
      clear HX HY hZ a0 a1 a2 f0 f1 f2 z0 z1 z2 belZ bel1 bel3 hb1 isl isr hvs hvr hb
      rcases hR with ⟨rfl, hc, hp, rfl⟩ | ⟨rfl, rfl, rfl, hno⟩
      · obtain ⟨ah, ch, hvl, _, _⟩ := ownl.is.shape
        subst hvl
        have hpl := hp.length_le
        rw [List.length_drop] at hpl
        obtain ⟨V, hV, bV, gV, ⟨a0, a1, a2⟩, ⟨f0, f1, f2⟩, ⟨z0, z1, z2⟩⟩ := res_step hB3 (.int .i64 x) (.int .i64 y) (.slice ah l.length ch)
        have belV := below_put bel03 gV (Nat.le_refl _) (by omega)
        have ownV := (ownl.keptg gV (by omega)).rebase (base' := w.heap.size) (by omega)
        have HR : Hid (RRes bs x y l ((s + r + (Bm.encB l).length : Nat) : Int) 0) := hide (.inl ⟨rfl, x, y, hx, hy, px, by rw [hsx]; exact py, hc, by rw [hsx, hsy]; exact hp, rfl, rfl, by rw [hsx, hsy]⟩)
        clear px py hsx hsy hc hp bV gV hB3 ownl bel03
        go_wp2
        refine bodyPost_ret (v := .tuple #[.agg #[.int .i64 x, .int .i64 y, .slice ah l.length ch], .int .i64 ((s + r + (Bm.encB l).length : Nat) : Int), .int .i64 0]) (by simp [results, Try.results96, go_sem, z0, z1, z2]) rfl ?_
        exact ⟨_, _, _, _, _, _, rfl, ownV, HR.out, belV⟩
      · obtain ⟨V, hV, bV, gV, ⟨a0, a1, a2⟩, ⟨f0, f1, f2⟩, ⟨z0, z1, z2⟩⟩ := res_step hB3 (.int .i64 0) (.int .i64 0) (.slice none 0 0)
        have belV := below_put bel03 gV (Nat.le_refl _) (by omega)
        have HR : Hid (RRes bs 0 0 [] 0 5) := hide (.inr ⟨rfl, rfl, rfl, rfl, rfl, Cm.no_batch px (by rw [hsx]; exact py) (by rw [hsx, hsy]; exact hno)⟩)
        clear px py hsx hsy hno bV gV hB3 ownl bel03
        go_wp2
        refine bodyPost_ret (v := .tuple #[.agg #[.int .i64 0, .int .i64 0, .slice none 0 0], .int .i64 0, .int .i64 5]) (by simp [results, Try.results96, go_sem, z0, z1, z2]) rfl ?_
        exact ⟨_, _, _, _, _, _, rfl, OwnO.nil _ _ _, HR.out, belV⟩
    · have HR : Hid (RRes bs 0 0 [] 0 5) := hide (.inr ⟨rfl, rfl, rfl, rfl, rfl, Cm.no_number HX.out.1 (by rw [HX.out.2]; exact hN)⟩)
      clear hN HS2 HX
      go_wp2
      refine bodyPost_ret (v := .tuple #[.agg #[.int .i64 0, .int .i64 0, .slice none 0 0], .int .i64 0, .int .i64 5]) (by simp [results, Try.results96, go_sem, z0, z1, z2]) rfl ?_
      exact ⟨_, _, _, _, _, _, rfl, OwnO.nil _ _ _, HR.out, belZ⟩
  · have HR : Hid (RRes bs 0 0 [] 0 5) := hide (.inr ⟨rfl, rfl, rfl, rfl, rfl, Cm.no_epoch hN⟩)
    clear hN HS
    go_wp2
    refine bodyPost_ret (v := .tuple #[.agg #[.int .i64 0, .int .i64 0, .slice none 0 0], .int .i64 0, .int .i64 5]) (by simp [results, Try.results96, go_sem, z0, z1, z2]) rfl ?_
    exact ⟨_, _, _, _, _, _, rfl, OwnO.nil _ _ _, HR.out, belZ⟩

end Go.Proofs.Ytimmohpnlieefaa

/- The contract of the program's Decode. -/
namespace Go.Proofs.Ytimmohpnlieefaa
open Go.RowKit
set_option linter.unusedVariables false

set_option maxHeartbeats 1000000 in
theorem cdec_any (vb : Value) (bs : List Int) (w : World) (hb : Is .u8 w vb bs) (hl : bs.length ≤ 140737488355328) :
    Calls Try.prog 76 #[vb] w fun E w' => ∃ (e n g : Int) (v : Value) (l : List Bm.Ov), E = .returned (.tuple #[cmv e n v, .int .i64 g]) ∧ OwnO 87 w.heap.size w' v l ∧ Cm.CRes bs e n l g ∧ Below w.heap.size w w' := by
  unfold cmv
  obtain ⟨w1, hw1, sz1, bel1, hB⟩ := blk_step w #[.int .i64 0, .int .i64 0, .slice none 0 0] 32
  have hb1 := hb.below bel1
  obtain ⟨ao, cap, rfl, _, _⟩ := hb.shape
  have HB := hide hB
  clear hB
  go_enter Try.func76, Try.ntmps76
  go_wp2_with fail
  refine (cread_any _ bs _ hb1 (by omega)).mono ?_
  rintro E w2 ⟨e, n, k, g, vl, l, rfl, ownl, hR, bel2⟩
  unfold cmv
  have sz2 := bel2.size
  have hB2 := (bel2.block w.heap.size (by omega)).trans HB.out
  have bel02 := bel1.trans (bel2.mono (by omega))
  obtain ⟨ah, ch, hvl, _, _⟩ := ownl.is.shape
  subst hvl
  obtain ⟨V, hV, hV2, szV, belV, bC, c0, c1, c2⟩ := new_step w2 32 (.int .i64 0) (.int .i64 0) (.slice none 0 0) (.int .i64 e) (.int .i64 n) (.slice ah l.length ch)
  have hB3 := (belV.block w.heap.size (by omega)).trans hB2
  have bel0V := bel02.trans (belV.mono (by omega))
  obtain ⟨Z, hZ, bZ, gZ, ⟨a0, a1, a2⟩, ⟨f0, f1, f2⟩, ⟨z0, z1, z2⟩⟩ := res_step hB3 (.int .i64 0) (.int .i64 0) (.slice none 0 0)
  have belZ := below_put bel0V gZ (Nat.le_refl _) (by omega)
  have H3 := hide hB3
  have HC := hide bC
  have ownV := ownl.below belV
  clear hB2 hB3 bC bZ gZ bel1 bel2 bel02 HB ownl hb1
  rcases hR with ⟨rfl, x, y, hx, hy, px, py, hc, hp, rfl, rfl, rfl⟩ | ⟨rfl, rfl, rfl, rfl, rfl, hno⟩
  · by_cases hk : Vm.sz x + Vm.sz y + (Bm.encB l).length = bs.length
    · have HK := hide hk
      rw [hk]
      have hkk : ((bs.length : Int) != (bs.length : Int)) = false := by simp
      have hfit := (small_of hc).fit
      have hl8 := (Bm.chkL_zero hc).2.1
      have P : Hid (Vm.enc x <+: bs ∧ Vm.enc y <+: bs.drop (Vm.sz x) ∧ Bm.chkL l = 0 ∧ Bm.encB l <+: bs.drop (Vm.sz x + Vm.sz y)) := ⟨px, py, hc, hp⟩
      clear hk px py hc hp
      go_wp2_with fail
      refine (ccheck_any x y _ l _ ownV.is hfit (by omega)).mono ?_
      rintro E w4 ⟨rfl, bel4⟩
      obtain ⟨px, py, hc, hp⟩ := P.out
      have sz4 := bel4.size
      have hB4 := (bel4.block w.heap.size (by omega)).trans H3.out
      have hC4 := (bel4.block w2.heap.size (by omega)).trans HC.out
      have bel04 := bel0V.trans (bel4.mono (by omega))
      have d0 := blk_cell hC4 0 rfl
      have d1 := blk_cell hC4 1 rfl
      have d2 := blk_cell hC4 2 rfl
      have own4 := ownV.below bel4
      clear hZ z0 z1 z2 belZ a0 a1 a2 f0 f1 f2 c0 c1 c2 hV hV2 belV bel0V ownV H3 HC bel4 P
      by_cases hck : Cm.chk x y l = 0
      · rw [hck]
        obtain ⟨V', hV', bV', gV', ⟨a0, a1, a2⟩, ⟨f0, f1, f2⟩, ⟨z0, z1, z2⟩⟩ := res_step hB4 (.int .i64 x) (.int .i64 y) (.slice ah l.length ch)
        have belV' := below_put bel04 gV' (Nat.le_refl _) (by omega)
        have ownV' := (own4.keptg gV' (by omega)).rebase (base' := w.heap.size) (by omega)
        have HR : Hid (Cm.CRes bs x y l 0) := hide (.inl ⟨rfl, hck, Cm.is_commit px py hp HK.out⟩)
        clear px py hc hp bV' gV' hB4 own4 bel04 hck HK hC4
        go_wp2
        refine bodyPost_ret (v := .tuple #[.agg #[.int .i64 x, .int .i64 y, .slice ah l.length ch], .int .i64 0]) (by simp [results, Try.results76, go_sem, z0, z1, z2]) rfl ?_
        exact ⟨_, _, _, _, _, rfl, ownV', HR.out, belV'⟩
      · have HR : Hid (Cm.CRes bs 0 0 [] 5) := hide (.inr ⟨rfl, rfl, rfl, rfl, Cm.no_left px py hc hp (.inr hck)⟩)
        have hne : (Cm.chk x y l == 0) = false := by simpa using hck
        obtain ⟨V', hV', bV', gV', ⟨a0, a1, a2⟩, ⟨f0, f1, f2⟩, ⟨z0, z1, z2⟩⟩ := res_step hB4 (.int .i64 0) (.int .i64 0) (.slice none 0 0)
        have belV' := below_put bel04 gV' (Nat.le_refl _) (by omega)
        generalize Cm.chk x y l = ck at *
        clear px py hc hp bV' gV' hB4 own4 bel04 hck HK hC4
        go_wp2
        refine bodyPost_ret (v := .tuple #[.agg #[.int .i64 0, .int .i64 0, .slice none 0 0], .int .i64 5]) (by simp [results, Try.results76, go_sem, z0, z1, z2]) rfl ?_
        exact ⟨_, _, _, _, _, rfl, OwnO.nil _ _ _, HR.out, belV'⟩
    · have HR : Hid (Cm.CRes bs 0 0 [] 5) := hide (.inr ⟨rfl, rfl, rfl, rfl, Cm.no_left px py hc hp (.inl hk)⟩)
      generalize Vm.sz x + Vm.sz y + (Bm.encB l).length = q at *
      have hkk : ((q : Int) != (bs.length : Int)) = true := by simp; omega
      clear hk px py hc hp
      go_wp2
      refine bodyPost_ret (v := .tuple #[.agg #[.int .i64 0, .int .i64 0, .slice none 0 0], .int .i64 5]) (by simp [results, Try.results76, go_sem, z0, z1, z2]) rfl ?_
      exact ⟨_, _, _, _, _, rfl, OwnO.nil _ _ _, HR.out, belZ⟩
  · have HR : Hid (Cm.CRes bs 0 0 [] 5) := hide (.inr ⟨rfl, rfl, rfl, rfl, hno⟩)
    clear hno
    simp only [List.length_nil] at hV hV2 c2
    go_wp2
    refine bodyPost_ret (v := .tuple #[.agg #[.int .i64 0, .int .i64 0, .slice none 0 0], .int .i64 5]) (by simp [results, Try.results76, go_sem, z0, z1, z2]) rfl ?_
    exact ⟨_, _, _, _, _, rfl, OwnO.nil _ _ _, HR.out, belZ⟩

end Go.Proofs.Ytimmohpnlieefaa

/- The contract of the document's reader's Done. -/
namespace Go.Proofs.Ytimmohpnlieefaa
open Go.RowKit
set_option linter.unusedVariables false

set_option maxHeartbeats 400000 in
theorem rdone_any (w0 w : World) (g : Nat) (vb : Value) (bs : List Int) (a : Nat) (bad : Bool) (h : Rdr w0 w g vb bs a bad) :
    Calls Try.prog 87 #[.pointer (some ⟨g, 0, none⟩)] w fun E w' => E = .returned (.bool (!bad && decide (a = bs.length))) ∧ ∃ m, w' = w.drewN m := by
  have c0 := h.cell0
  have c1 := h.cell1
  have c2 := h.cell2
  obtain ⟨ao, cap, rfl, _, _⟩ := h.is.shape
  clear h
  go_enter Try.func87, Try.ntmps87
  cases bad
  · by_cases he : a = bs.length
    · have he' : ((a : Int) == (bs.length : Int)) = true := by simp [he]
      have hd : (!false && decide (a = bs.length)) = true := by simp [he]
      rw [hd]
      clear he hd
      go_wp2_with fail
      go_quiet (fail)
      go_wp2
      go_ret
      exact ⟨rfl, _, rfl⟩
    · have he' : ((a : Int) == (bs.length : Int)) = false := by simp; omega
      have hd : (!false && decide (a = bs.length)) = false := by simp [he]
      rw [hd]
      clear he hd
      go_wp2_with fail
      go_quiet (fail)
      go_wp2
      go_ret
      exact ⟨rfl, _, rfl⟩
  · rw [Bool.not_true, Bool.false_and]
    go_wp2_with fail
    go_quiet (fail)
    go_wp2
    go_ret
    exact ⟨rfl, _, rfl⟩

end Go.Proofs.Ytimmohpnlieefaa

/- The contracts of the document's Done and Decode; of the copy that slices.Clone makes of ops, and of Copy. -/
namespace Go.Proofs.Ytimmohpnlieefaa
open Go.RowKit
set_option linter.unusedVariables false

/-- What the reader's three steps come to. -/
theorem doc_steps {bs : List Int} {u n a1 a2 a3 : Nat} {b1 b2 b3 : Bool} {l : List Bm.Ov} (s1 : SStep bs 1048576 0 false u a1 b1) (s2 : SStep bs 1048576 a1 b1 n a2 b2) (s3 : Bm.NX bs a2 b2 l a3 b3) :
    (b3 = true ∧ ∀ e' n' l', Cm.chk e' n' l' = 0 → Cm.encC e' n' l' ≠ bs) ∨
    (b3 = false ∧ Vm.enc u <+: bs ∧ Vm.enc n <+: bs.drop (Vm.sz u) ∧ Bm.chkL l = 0 ∧ Bm.encB l <+: bs.drop (Vm.sz u + Vm.sz n) ∧ a3 = Vm.sz u + Vm.sz n + (Bm.encB l).length) := by
  rcases s1 with ⟨h, _⟩ | ⟨_, rfl, rfl, rfl, h1⟩ | ⟨_, rfl, h1, h2, rfl⟩
  · simp at h
  · rcases s2 with ⟨_, rfl, _⟩ | ⟨h, _⟩ | ⟨h, _⟩
    · rcases s3 with ⟨_, rfl, _⟩ | ⟨h, _⟩
      · exact .inl ⟨rfl, Cm.no_epoch (by simpa [Cm.NoNum] using h1)⟩
      · simp at h
    · simp at h
    · simp at h
  · rw [List.drop_zero] at h2
    rw [Nat.zero_add] at s2
    rcases s2 with ⟨h, _⟩ | ⟨_, rfl, rfl, rfl, k1⟩ | ⟨_, rfl, k1, k2, rfl⟩
    · simp at h
    · rcases s3 with ⟨_, rfl, _⟩ | ⟨h, _⟩
      · exact .inl ⟨rfl, Cm.no_number h2 k1⟩
      · simp at h
    · rcases s3 with ⟨h, _⟩ | ⟨_, ⟨rfl, h⟩ | ⟨rfl, _, h⟩⟩
      · simp at h
      · rcases h with ⟨_, g1, g2, g3⟩ | ⟨h, _⟩
        · exact .inr ⟨rfl, h2, k2, g1, g2, by omega⟩
        · simp at h
      · rcases h with ⟨h, _⟩ | ⟨_, _, _, h⟩
        · simp at h
        · exact .inl ⟨rfl, Cm.no_batch h2 k2 h⟩

theorem sstep_le {bs : List Int} {a u a' : Nat} {b b' : Bool} (h : SStep bs 1048576 a b u a' b') : u ≤ 1048576 := by
  rcases h with ⟨_, _, rfl, _⟩ | ⟨_, _, rfl, _⟩ | ⟨_, _, h, _⟩
  · omega
  · omega
  · exact h

theorem put_one {V : World} {R : Nat} {t : TypeId} {x y z : Value} (hR : V.heap[R]? = some (.cells #[x, y, z] t (0, 0))) (c : Value) :
    ∃ V', V.setCell ⟨R, 2, none⟩ c = V' ∧ V'.heap[R]? = some (.cells #[x, y, c] t (0, 0)) ∧ V.grownBy V' (some R) ∧ V.cell? ⟨R, 2, none⟩ = some z ∧ V.frozen? ⟨R, 2, none⟩ = false :=
  ⟨_, rfl, set_cells hR 2 c, grown_setCell V ⟨R, 2, none⟩ c, blk_cell hR 2 rfl, blk_froz hR 2⟩

theorem nx_small {bs : List Int} {a a' : Nat} {b b' : Bool} {l : List Bm.Ov} (h : Bm.NX bs a b l a' b') : SmallO l ∧ l.length ≤ 8 := by
  rcases h with ⟨_, _, rfl⟩ | ⟨_, ⟨_, h⟩ | ⟨_, rfl, _⟩⟩
  · exact ⟨fun o ho => by simp at ho, by simp⟩
  · exact bres_small h
  · exact ⟨fun o ho => by simp at ho, by simp⟩

set_option maxHeartbeats 2000000 in
theorem cdecR_any (vb : Value) (bs : List Int) (w : World) (hb : Is .u8 w vb bs) (hl : bs.length ≤ 140737488355328) :
    Calls Try.prog 57 #[vb] w fun E w' => ∃ (e n g : Int) (v : Value) (l : List Bm.Ov), E = .returned (.tuple #[cmv e n v, .int .i64 g]) ∧ OwnO 87 w.heap.size w' v l ∧ Cm.CRes bs e n l g ∧ Below w.heap.size w w' := by
  unfold cmv
  obtain ⟨ao, cap, rfl, _, _⟩ := hb.shape
  obtain ⟨w1, hw1, sz1, bel1, hB⟩ := blk_step w #[.int .i64 0, .int .i64 0, .slice none 0 0] 32
  obtain ⟨w2, hw2, sz2, bel2, hG⟩ := blk_step w1 #[.slice ao bs.length cap, .int .i64 0, .bool false] 117
  rw [sz1] at hG
  have bel02 : Below w.heap.size w w2 := bel1.trans (bel2.mono (by omega))
  have r2 : Rdr w w2 (w.heap.size + 1) (.slice ao bs.length cap) bs 0 false := ⟨hb, by omega, bel02, hG, by omega⟩
  have hB2 := (bel2.block w.heap.size (by omega)).trans hB
  have HB2 := hide hB2
  clear hB hB2 hG bel1 bel2 bel02
  go_enter Try.func57, Try.ntmps57
  go_wp2_with fail
  refine (rsmall_any w w2 (w.heap.size + 1) _ bs 0 false 1048576 r2 (by omega) (by omega)).mono ?_
  rintro E w3 ⟨u, a1, b1, rfl, r3, gr3, s1⟩
  have sz3 := gr3.size
  have hB3 := (gr3.block w.heap.size (by omega) (by simp)).trans HB2.out
  have S1 := hide s1
  have hu := sstep_le s1
  have HB3 := hide hB3
  clear HB2 hB3 r2 gr3 s1
  go_wp2_with fail
  refine (rsmall_any w w3 (w.heap.size + 1) _ bs a1 b1 1048576 r3 (by omega) (by omega)).mono ?_
  rintro E w4 ⟨n, a2, b2, rfl, r4, gr4, s2⟩
  have sz4 := gr4.size
  have hB4 := (gr4.block w.heap.size (by omega) (by simp)).trans HB3.out
  have S2 := hide s2
  have hn := sstep_le s2
  clear HB3 r3 gr4 s2
  obtain ⟨V, hV, hV2, szV, belV, bC, c0, c1, c2⟩ := new_step w4 32 (.int .i64 0) (.int .i64 0) (.slice none 0 0) (.int .i64 u) (.int .i64 n) (.slice none 0 0)
  have rV := r4.below belV
  have hBV := (belV.block w.heap.size (by omega)).trans hB4
  have HBV := hide hBV
  have HC := hide bC
  have fz := blk_froz bC 2
  have ss : V.setCell ⟨w4.heap.size, 2, none⟩ (.slice none 0 0) = V := set_same bC (j := 2) rfl
  clear hB4 hBV bC r4 belV c0 c1
  go_wp2_with fail
  refine (bnextR_any w V (w.heap.size + 1) _ bs a2 b2 rV hl).mono ?_
  rintro E w5 ⟨vl, l, a3, b3, rfl, ownl, r5, gr5, s3⟩
  have sz5 := gr5.size
  have hB5 := (gr5.block w.heap.size (by omega) (by simp)).trans HBV.out
  have hC5 := (gr5.block w4.heap.size (by omega) (by simp; omega)).trans HC.out
  obtain ⟨hsm, hl8⟩ := nx_small s3
  have hfit := hsm.fit
  have hst := doc_steps S1.out S2.out s3
  obtain ⟨ah, ch, hvl, _, _⟩ := ownl.is.shape
  subst hvl
  obtain ⟨X, hX, cX, gX, q2, q3⟩ := put_one hC5 (.slice ah l.length ch)
  have szX := gX.size
  have rX := r5.grownB gX (by omega) (by omega)
  have hBX := (gX.block w.heap.size (by omega) (by simp; omega)).trans hB5
  have ownX := ownl.keptg gX (by omega)
  have HX := hide hBX
  have HCX := hide cX
  have HST := hide hst
  clear S1 S2 s3 hst hBX cX gX gr5 r5 hB5 hC5 HBV HC rV hV hV2 hsm fz ss c2
  go_wp2_with fail
  refine (rdone_any w X (w.heap.size + 1) _ bs a3 b3 rX).mono ?_
  rintro E w6 ⟨rfl, mq, rfl⟩
  have bel6 : Below X.heap.size X (X.drewN mq) := below_drewN (Below.refl _ _) mq
  generalize hw6 : X.drewN mq = w6 at *
  have sz6 := bel6.size
  have r6 := rX.below bel6
  have hB6 := (bel6.block w.heap.size (by omega)).trans HX.out
  have hC6 := (bel6.block w4.heap.size (by omega)).trans HCX.out
  have own6 := ownX.below bel6
  have bel06 : Below w.heap.size w w6 := r6.2.2.1
  have c0 := blk_cell hC6 0 rfl
  have c1 := blk_cell hC6 1 rfl
  have c2 := blk_cell hC6 2 rfl
  clear rX r6 ownX HX HCX bel6 q2 q3 hX hw6 hw1 hw2
  have HB6 := hide hB6
  have HC6 := hide hC6
  by_cases hd : b3 = false ∧ a3 = bs.length
  · obtain ⟨rfl, rfl⟩ := hd
    have hdd : (!false && decide (bs.length = bs.length)) = true := by simp
    rw [hdd]
    clear hdd hB6 hC6
    go_wp2_with fail
    refine (ccheckR_any u n _ l _ own6.is hfit (by omega)).mono ?_
    rintro E w7 ⟨rfl, bel7⟩
    have sz7 := bel7.size
    have hB7 := (bel7.block w.heap.size (by omega)).trans HB6.out
    have hC7 := (bel7.block w4.heap.size (by omega)).trans HC6.out
    have own7 := own6.below bel7
    have bel07 := bel06.trans (bel7.mono (by omega))
    have d0 := blk_cell hC7 0 rfl
    have d1 := blk_cell hC7 1 rfl
    have d2 := blk_cell hC7 2 rfl
    clear HB6 HC6 c0 c1 c2 hC7 own6 bel06 bel7
    rcases HST.out with ⟨h, _⟩ | ⟨_, px, py, hc, hp, hk⟩
    · simp at h
    · by_cases hck : Cm.chk u n l = 0
      · rw [hck]
        obtain ⟨V', hV', bV', gV', ⟨a0, a1', a2'⟩, ⟨f0, f1, f2⟩, ⟨z0, z1, z2⟩⟩ := res_step hB7 (.int .i64 u) (.int .i64 n) (.slice ah l.length ch)
        have belV' := below_put bel07 gV' (Nat.le_refl _) (by omega)
        have ownV' := (own7.keptg gV' (by omega)).rebase (base' := w.heap.size) (by omega)
        have HR : Hid (Cm.CRes bs u n l 0) := hide (.inl ⟨rfl, hck, Cm.is_commit px py hp hk.symm⟩)
        clear px py hc hp hk bV' gV' hB7 own7 bel07 hck HST
        go_wp2
        refine bodyPost_ret (v := .tuple #[.agg #[.int .i64 u, .int .i64 n, .slice ah l.length ch], .int .i64 0]) (by simp [results, Try.results57, go_sem, z0, z1, z2]) rfl ?_
        exact ⟨_, _, _, _, _, rfl, ownV', HR.out, belV'⟩
      · have HR : Hid (Cm.CRes bs 0 0 [] 5) := hide (.inr ⟨rfl, rfl, rfl, rfl, Cm.no_left px py hc hp (.inr hck)⟩)
        have hne : (Cm.chk u n l == 0) = false := by simpa using hck
        obtain ⟨V', hV', bV', gV', ⟨a0, a1', a2'⟩, ⟨f0, f1, f2⟩, ⟨z0, z1, z2⟩⟩ := res_step hB7 (.int .i64 0) (.int .i64 0) (.slice none 0 0)
        have belV' := below_put bel07 gV' (Nat.le_refl _) (by omega)
        generalize Cm.chk u n l = ck at *
        clear px py hc hp hk bV' gV' hB7 own7 bel07 hck HST
        go_wp2
        refine bodyPost_ret (v := .tuple #[.agg #[.int .i64 0, .int .i64 0, .slice none 0 0], .int .i64 5]) (by simp [results, Try.results57, go_sem, z0, z1, z2]) rfl ?_
        exact ⟨_, _, _, _, _, rfl, OwnO.nil _ _ _, HR.out, belV'⟩
  · have hdd : (!b3 && decide (a3 = bs.length)) = false := by
      cases b3
      · simpa using hd
      · rfl
    rw [hdd]
    have HR : Hid (Cm.CRes bs 0 0 [] 5) := hide (.inr ⟨rfl, rfl, rfl, rfl, by
      rcases HST.out with ⟨_, h⟩ | ⟨h, px, py, hc, hp, hk⟩
      · exact h
      · exact Cm.no_left px py hc hp (.inl fun e => hd ⟨h, by omega⟩)⟩)
    obtain ⟨V', hV', bV', gV', ⟨a0, a1', a2'⟩, ⟨f0, f1, f2⟩, ⟨z0, z1, z2⟩⟩ := res_step hB6 (.int .i64 0) (.int .i64 0) (.slice none 0 0)
    have belV' := below_put bel06 gV' (Nat.le_refl _) (by omega)
    clear hd hdd HST bV' gV' hB6 hC6 own6 bel06 HB6 HC6
    go_wp2
    refine bodyPost_ret (v := .tuple #[.agg #[.int .i64 0, .int .i64 0, .slice none 0 0], .int .i64 5]) (by simp [results, Try.results57, go_sem, z0, z1, z2]) rfl ?_
    exact ⟨_, _, _, _, _, rfl, OwnO.nil _ _ _, HR.out, belV'⟩

set_option maxHeartbeats 400000 in
theorem cloneO_any (vl : Value) (l : List Bm.Ov) (w : World) (h : IsO w vl l) (hl : l.length * 40 ≤ 140737488351232) :
    Calls Try.prog 81 #[vl] w fun e w' => ∃ v, e = .returned v ∧ OwnO 87 w.heap.size w' v l ∧ Below w.heap.size w w' := by
  have q : ∀ (w : World) (a : Option Addr) (n c n' c' : Nat), (binOp .eql 30 (.slice a n c) (.slice none n' c')).run Try.prog w = .ok (.bool a.isNone) w := fun w a n c n' c' => Lib.run_eql_slice_nil w _ _ a n c n' c' Try.underlying30
  by_cases hn : vl = .slice none 0 0
  · subst hn
    have : l = [] := by
      rcases h with ⟨_, h⟩ | ⟨ad, cap, h, _⟩
      · exact h
      · simp at h
    subst this
    clear h hl
    go_enter Try.func81, Try.ntmps81
    go_wp2
    go_ret
    exact ⟨_, rfl, OwnO.nil _ _ _, Below.refl _ _⟩
  · obtain ⟨ad, cap, rfl⟩ : ∃ ad cap, vl = .slice (some ad) l.length cap := by
      rcases h with ⟨h, _⟩ | ⟨ad, cap, h, _⟩
      · exact absurd h hn
      · exact ⟨ad, cap, h⟩
    clear hn
    obtain ⟨w1, hw1, sz1, bel1, own1⟩ := ops_step 87 w #[] 0 [] rfl rfl (by simp [maxLen])
    have h1 := h.below bel1
    go_enter Try.func81, Try.ntmps81
    go_wp2_with (at_builtin; refine wpList_append_ops rfl (.tmp 5) (.tmp 6) 30 rfl 87 w.heap.size Try.underlying30 Try.info87 _ [] rfl own1 _ l rfl h1 (by simp; omega) (by omega) ?_)
    intro v2 w2 own2 bel2 _
    go_wp2
    go_ret
    exact ⟨_, rfl, by simpa using own2, bel1.trans bel2⟩

set_option maxHeartbeats 400000 in
theorem ccopy_any (e n : Int) (v : Value) (l : List Bm.Ov) (w : World) (h : IsO w v l) (hl : l.length * 40 ≤ 140737488351232) :
    Calls Try.prog 47 #[cmv e n v] w fun E w' => ∃ v', E = .returned (cmv e n v') ∧ OwnO 87 w.heap.size w' v' l ∧ Below w.heap.size w w' := by
  unfold cmv
  obtain ⟨w1, hw1, sz1, bel1, hB⟩ := blk_step w #[.int .i64 e, .int .i64 n, v] 32
  obtain ⟨w2, hw2, sz2, bel2, hR⟩ := blk_step w1 #[.int .i64 0, .int .i64 0, .slice none 0 0] 32
  rw [sz1] at hR
  have hB2 := (bel2.block w.heap.size (by omega)).trans hB
  have bel02 : Below w.heap.size w w2 := bel1.trans (bel2.mono (by omega))
  have h2 := h.below bel02
  obtain ⟨ao, cap, rfl, _, _⟩ := h.shape
  have c2 := blk_cell hB2 2 rfl
  have HB := hide hB2
  have HR := hide hR
  clear hB hB2 hR bel1 bel2
  go_enter Try.func47, Try.ntmps47
  go_wp2_with fail
  refine (cloneO_any _ l _ h2 hl).mono ?_
  rintro E w3 ⟨v3, rfl, own3, bel3⟩
  have sz3 := bel3.size
  have hB3 := (bel3.block w.heap.size (by omega)).trans HB.out
  have hR3 := (bel3.block (w.heap.size + 1) (by omega)).trans HR.out
  have bel03 := bel02.trans (bel3.mono (by omega))
  obtain ⟨ah, ch, hvl, _, _⟩ := own3.is.shape
  subst hvl
  obtain ⟨X, hX, cX, gX, q2, q3⟩ := put_one hB3 (.slice ah l.length ch)
  have szX := gX.size
  have hRX := (gX.block (w.heap.size + 1) (by omega) (by simp)).trans hR3
  have ownX := own3.keptg gX (by omega)
  have bel0X := below_put bel03 gX (Nat.le_refl _) (by omega)
  have d0 := blk_cell cX 0 rfl
  have d1 := blk_cell cX 1 rfl
  have d2 := blk_cell cX 2 rfl
  obtain ⟨V', hV', bV', gV', ⟨a0, a1, a2⟩, ⟨f0, f1, f2⟩, ⟨z0, z1, z2⟩⟩ := res_step hRX (.int .i64 e) (.int .i64 n) (.slice ah l.length ch)
  have belV' := below_put bel0X gV' (by omega) (by omega)
  have ownV' := (ownX.keptg gV' (by omega)).rebase (base' := w.heap.size) (by omega)
  clear HB HR hB3 hR3 cX gX hRX bV' gV' own3 ownX bel03 bel0X bel3 c2
  go_wp2
  refine bodyPost_ret (v := .agg #[.int .i64 e, .int .i64 n, .slice ah l.length ch]) (by simp [results, Try.results47, go_sem, z0, z1, z2]) rfl ?_
  exact ⟨_, rfl, ownV', belV'⟩

end Go.Proofs.Ytimmohpnlieefaa
