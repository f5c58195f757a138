/- Texts of one layer, one behind the other. -/
import Derived.Test.YtkpnkknolobioaaG9
import Derived.Test.YtkpnkknolobioaaG5
import Derived.Test.YtkpnkknolobioaaG1
import Derived.Test.YtkpnkknolobioaaG3
/- The contracts of batch's reader's op and of Read. -/
namespace Go.Proofs.Ytkpnkknolobioaa
open Go.RowKit
set_option linter.unusedVariables false

set_option maxHeartbeats 1000000 in
theorem bop_any (w0 w : World) (g : Nat) (vb : Value) (bs : List Int) (a : Nat) (bad : Bool) (ah : ByteArray) (h : Brd w0 w g vb bs a bad) (hl : bs.length ≤ 140737488355328) (hah : ah.size ≤ 16) :
    Calls Try.prog 123 #[.pointer (some ⟨g, 0, none⟩), .string ah] w fun E w' => ∃ (o : Bm.Ov) (a' : Nat) (bad' : Bool), E = .returned (opv o.p o.k o.v) ∧ Brd w0 w' g vb bs a' bad' ∧ w.grownBy w' (some g) ∧ Bm.OS bs a bad ah.data.toList o a' bad' ∧ o.k.size ≤ 16 ∧ o.v.size ≤ 32 := by
  unfold opv
  have hby := h.is.bytes
  have hg := h.lt
  have hw0 := h.2.2.1.size
  obtain ⟨W, hW, szW, belW, blkR⟩ := blk_step w #[.bool false, .string ⟨#[]⟩, .string ⟨#[]⟩] 66
  have r0 := h.below belW
  have grW := grown_of_below belW (some g)
  have HBY := hide hby
  clear h hby
  go_enter Try.func123, Try.ntmps123
  go_wp2_with fail
  refine (bnum_any w0 W g vb bs a bad 1 r0 hl (by omega)).mono ?_
  rintro E w1 ⟨mark, a1, bad1, rfl, r1, gr1, s1⟩
  have sz1 := gr1.size
  have blkR1 := (gr1.block w.heap.size (by omega) (by simp; omega)).trans blkR
  have hmark := Bm.ss_le s1
  have grA : w.grownBy w1 (some g) := grown_trans grW gr1
  clear r0 grW gr1 blkR belW hW
  rcases (show mark = 0 ∨ mark = 1 by omega) with rfl | rfl
  · have S1 := hide s1
    clear s1
    go_wp2_with fail
    refine (bkey_any w0 w1 g vb bs a1 bad1 ah r1 hl hah).mono ?_
    rintro E w2 ⟨k, a2, bad2, rfl, r2, gr2, ks⟩
    have sz2 := gr2.size
    have blkR2 := (gr2.block w.heap.size (by omega) (by simp; omega)).trans blkR1
    obtain ⟨W3, hW3, sz3, bel3, blkO⟩ := blk_step w2 #[.bool false, .string k, .string ⟨#[]⟩] 66
    have O0 := blk_froz blkO 0
    have O1 := blk_froz blkO 1
    have O2 := blk_froz blkO 2
    have x0 : W3.setCell ⟨w2.heap.size, 0, none⟩ (.bool false) = W3 := set_same blkO (j := 0) rfl
    have x1 : W3.setCell ⟨w2.heap.size, 1, none⟩ (.string k) = W3 := set_same blkO (j := 1) rfl
    have x2 : W3.setCell ⟨w2.heap.size, 2, none⟩ (.string ⟨#[]⟩) = W3 := set_same blkO (j := 2) rfl
    have r3 := r2.below bel3
    have blkR3 := (bel3.block w.heap.size (by omega)).trans blkR2
    have o0 : W3.cell? ⟨w2.heap.size, 0, none⟩ = some (.bool false) := blk_cell blkO 0 rfl
    have o1 : W3.cell? ⟨w2.heap.size, 1, none⟩ = some (.string k) := blk_cell blkO 1 rfl
    have o2 : W3.cell? ⟨w2.heap.size, 2, none⟩ = some (.string ⟨#[]⟩) := blk_cell blkO 2 rfl
    have R0 : W3.cell? ⟨w.heap.size, 0, none⟩ = some (.bool false) := blk_cell blkR3 0 rfl
    have R1 : W3.cell? ⟨w.heap.size, 1, none⟩ = some (.string ⟨#[]⟩) := blk_cell blkR3 1 rfl
    have R2 : W3.cell? ⟨w.heap.size, 2, none⟩ = some (.string ⟨#[]⟩) := blk_cell blkR3 2 rfl
    have F0 := blk_froz blkR3 0
    have F1 := blk_froz blkR3 1
    have F2 := blk_froz blkR3 2
    obtain ⟨V', hV', bV', gV'⟩ := put3 blkR3 (.bool false) (.string k) (.string ⟨#[]⟩)
    have k0 : V'.cell? ⟨w.heap.size, 0, none⟩ = some (.bool false) := blk_cell bV' 0 rfl
    have k1 : V'.cell? ⟨w.heap.size, 1, none⟩ = some (.string k) := blk_cell bV' 1 rfl
    have k2 : V'.cell? ⟨w.heap.size, 2, none⟩ = some (.string ⟨#[]⟩) := blk_cell bV' 2 rfl
    have grB : w.grownBy V' (some g) := grown_fresh (grown_trans (grown_trans grA gr2) (grown_of_below bel3 _)) gV' (Nat.le_refl _)
    have rV : Brd w0 V' g vb bs a2 bad2 := r3.grown gV' hw0 (by omega)
    have hOS : Bm.OS bs a bad ah.data.toList ⟨false, k, ⟨#[]⟩⟩ a2 bad2 := Bm.ks_del HBY.out S1.out ks rfl rfl rfl
    have hkl := Bm.ks_len ks (by rw [← Lib.size_eq]; exact hah)
    rw [← Lib.size_eq] at hkl
    have RV := hide rV
    have OS := hide hOS
    clear ks r1 r2 r3 blkR1 blkR2 blkR3 blkO bV' gV' rV hOS grA gr2 bel3
    go_wp2
    refine bodyPost_ret (v := .agg #[.bool false, .string k, .string ⟨#[]⟩]) (by simp [results, Try.results123, go_sem, k0, k1, k2]) rfl ?_
    exact ⟨⟨false, k, ⟨#[]⟩⟩, a2, bad2, rfl, RV.out, grB, OS.out, hkl, by simp [ByteArray.size]⟩
  · have S1 := hide s1
    clear s1
    go_wp2_with fail
    refine (bkey_any w0 w1 g vb bs a1 bad1 ah r1 hl hah).mono ?_
    rintro E w2 ⟨k, a2, bad2, rfl, r2, gr2, ks⟩
    have sz2 := gr2.size
    have blkR2 := (gr2.block w.heap.size (by omega) (by simp; omega)).trans blkR1
    obtain ⟨W3, hW3, sz3, bel3, blkO⟩ := blk_step w2 #[.bool true, .string k, .string ⟨#[]⟩] 66
    have O0 := blk_froz blkO 0
    have O1 := blk_froz blkO 1
    have O2 := blk_froz blkO 2
    have x0 : W3.setCell ⟨w2.heap.size, 0, none⟩ (.bool true) = W3 := set_same blkO (j := 0) rfl
    have x1 : W3.setCell ⟨w2.heap.size, 1, none⟩ (.string k) = W3 := set_same blkO (j := 1) rfl
    have x2 : W3.setCell ⟨w2.heap.size, 2, none⟩ (.string ⟨#[]⟩) = W3 := set_same blkO (j := 2) rfl
    have r3 := r2.below bel3
    have blkR3 := (bel3.block w.heap.size (by omega)).trans blkR2
    have o0 : W3.cell? ⟨w2.heap.size, 0, none⟩ = some (.bool true) := blk_cell blkO 0 rfl
    have o1 : W3.cell? ⟨w2.heap.size, 1, none⟩ = some (.string k) := blk_cell blkO 1 rfl
    have o2 : W3.cell? ⟨w2.heap.size, 2, none⟩ = some (.string ⟨#[]⟩) := blk_cell blkO 2 rfl
    have grB : w.grownBy W3 (some g) := grown_trans (grown_trans grA gr2) (grown_of_below bel3 _)
    have hkl := Bm.ks_len ks (by rw [← Lib.size_eq]; exact hah)
    rw [← Lib.size_eq] at hkl
    have KS := hide ks
    clear ks r1 r2 grA gr2 bel3 blkR1 blkR2
    go_wp2_with fail
    refine (bnum_any w0 W3 g vb bs a2 bad2 32 r3 hl (by omega)).mono ?_
    rintro E w4 ⟨n, a4, bad4, rfl, r4, gr4, s4⟩
    have hn := Bm.ss_le s4
    have sz4 := gr4.size
    have blkR4 := (gr4.block w.heap.size (by omega) (by simp; omega)).trans blkR3
    have blkO4 := (gr4.block w2.heap.size (by omega) (by simp; omega)).trans blkO
    have S4 := hide s4
    clear s4
    go_wp2_with fail
    refine (btext_any w0 w4 g vb bs a4 bad4 n r4 hl (by omega)).mono ?_
    rintro E w5 ⟨s, ys, a5, bad5, rfl, hs, r5, gr5, s5⟩
    have sz5 := gr5.size
    have blkR5 := (gr5.block w.heap.size (by omega) (by simp; omega)).trans blkR4
    have blkO5 := (gr5.block w2.heap.size (by omega) (by simp; omega)).trans blkO4
    have p2 : w5.cell? ⟨w2.heap.size, 2, none⟩ = some (.string ⟨#[]⟩) := blk_cell blkO5 2 rfl
    have q2 := blk_froz blkO5 2
    obtain ⟨W6, hW6⟩ : ∃ W6, w5.setCell ⟨w2.heap.size, 2, none⟩ (.string s) = W6 := ⟨_, rfl⟩
    have blkO6 : W6.heap[w2.heap.size]? = some (.cells #[.bool true, .string k, .string s] 66 (0, 0)) := by rw [← hW6]; exact set_cells blkO5 2 (.string s)
    have gr6 : w5.grownBy W6 (some w2.heap.size) := by rw [← hW6]; exact grown_setCell w5 ⟨w2.heap.size, 2, none⟩ _
    have sz6 := gr6.size
    have blkR6 := (gr6.block w.heap.size (by omega) (by simp; omega)).trans blkR5
    have r6 := r5.grown gr6 (by omega) (by omega)
    have o0 : W6.cell? ⟨w2.heap.size, 0, none⟩ = some (.bool true) := blk_cell blkO6 0 rfl
    have o1 : W6.cell? ⟨w2.heap.size, 1, none⟩ = some (.string k) := blk_cell blkO6 1 rfl
    have o2 : W6.cell? ⟨w2.heap.size, 2, none⟩ = some (.string s) := blk_cell blkO6 2 rfl
    have R0 : W6.cell? ⟨w.heap.size, 0, none⟩ = some (.bool false) := blk_cell blkR6 0 rfl
    have R1 : W6.cell? ⟨w.heap.size, 1, none⟩ = some (.string ⟨#[]⟩) := blk_cell blkR6 1 rfl
    have R2 : W6.cell? ⟨w.heap.size, 2, none⟩ = some (.string ⟨#[]⟩) := blk_cell blkR6 2 rfl
    have F0 := blk_froz blkR6 0
    have F1 := blk_froz blkR6 1
    have F2 := blk_froz blkR6 2
    obtain ⟨V', hV', bV', gV'⟩ := put3 blkR6 (.bool true) (.string k) (.string s)
    have k0 : V'.cell? ⟨w.heap.size, 0, none⟩ = some (.bool true) := blk_cell bV' 0 rfl
    have k1 : V'.cell? ⟨w.heap.size, 1, none⟩ = some (.string k) := blk_cell bV' 1 rfl
    have k2 : V'.cell? ⟨w.heap.size, 2, none⟩ = some (.string s) := blk_cell bV' 2 rfl
    have grC : w.grownBy V' (some g) := grown_fresh (grown_fresh (grown_trans (grown_trans grB gr4) gr5) gr6 (by omega)) gV' (Nat.le_refl _)
    have rV : Brd w0 V' g vb bs a5 bad5 := r6.grown gV' hw0 (by omega)
    have hOS : Bm.OS bs a bad ah.data.toList ⟨true, k, s⟩ a5 bad5 := Bm.ks_put HBY.out S1.out KS.out rfl rfl hs S4.out s5
    have hsl : s.size ≤ 32 := by
      have := Bm.bs_le s5
      have e := congrArg List.length hs
      rw [Om.byts_len, ← Lib.size_eq] at e
      omega
    have RV := hide rV
    have OS := hide hOS
    clear hs s5 r4 r5 r6 rV hOS blkR3 blkR4 blkR5 blkR6 blkO blkO4 blkO5 blkO6 bV' gV' grB gr4 gr5 gr6
    go_wp2
    refine bodyPost_ret (v := .agg #[.bool true, .string k, .string s]) (by simp [results, Try.results123, go_sem, k0, k1, k2]) rfl ?_
    exact ⟨⟨true, k, s⟩, a5, bad5, rfl, RV.out, grC, OS.out, hkl, hsl⟩

/-- An op that is read is small. -/
def SmallO (l : List Bm.Ov) : Prop := ∀ o ∈ l, o.k.size ≤ 16 ∧ o.v.size ≤ 32

theorem SmallO.fit {l : List Bm.Ov} (h : SmallO l) : FitO l := fun o ho => by have := h o ho; omega

theorem SmallO.snoc {l : List Bm.Ov} {o : Bm.Ov} (h : SmallO l) (h1 : o.k.size ≤ 16) (h2 : o.v.size ≤ 32) : SmallO (l ++ [o]) := by
  intro x hx
  rcases List.mem_append.1 hx with hx | hx
  · exact h x hx
  · rw [List.mem_singleton.1 hx]; exact ⟨h1, h2⟩

theorem small_of {l : List Bm.Ov} (h : Bm.chkL l = 0) : SmallO l := by
  intro o ho
  have := Om.chk_ok' ((Bm.chkL_zero h).2.2 o ho)
  simp only [Bm.Ov.kl, Bm.Ov.vl, ← Lib.size_eq] at this
  omega

theorem bres_small {bs : List Int} {l : List Bm.Ov} {n e : Int} (h : Bm.BRes bs l n e) : SmallO l ∧ l.length ≤ 8 := by
  rcases h with ⟨_, h, _⟩ | ⟨_, h, _⟩
  · exact ⟨small_of h, (Bm.chkL_zero h).2.1⟩
  · subst h
    exact ⟨fun o ho => by simp at ho, by simp⟩

set_option maxHeartbeats 1000000 in
theorem bread_any (vb : Value) (bs : List Int) (w : World) (hb : Is .u8 w vb bs) (hl : bs.length ≤ 140737488355328) :
    Calls Try.prog 121 #[vb] w fun E w' => ∃ (vl : Value) (l : List Bm.Ov) (n e : Int), E = .returned (.tuple #[vl, .int .i64 n, .int .i64 e]) ∧ OwnO 66 w.heap.size w' vl l ∧ Bm.BRes bs l n e ∧ Below w.heap.size w w' := by
  obtain ⟨i0, hi, hz0, hz1, hz2⟩ := info_parts Try.info66
  obtain ⟨ao, cap, rfl, _, _⟩ := hb.shape
  obtain ⟨W1, hW1, sz1, bel1, blk1⟩ := blk_step w #[.slice ao bs.length cap, .int .i64 0, .int .i64 0] 138
  have r1 : Brd w W1 w.heap.size (.slice ao bs.length cap) bs 0 false := ⟨hb, by omega, bel1, blk1, by omega⟩
  have c0 : W1.cell? ⟨w.heap.size, 0, none⟩ = some (.slice ao bs.length cap) := blk_cell blk1 0 rfl
  have c1 : W1.cell? ⟨w.heap.size, 1, none⟩ = some (.int .i64 0) := blk_cell blk1 1 rfl
  have c2 : W1.cell? ⟨w.heap.size, 2, none⟩ = some (.int .i64 0) := blk_cell blk1 2 rfl
  have f0 := blk_froz blk1 0
  have f1 := blk_froz blk1 1
  have f2 := blk_froz blk1 2
  have x0 : W1.setCell ⟨w.heap.size, 0, none⟩ (.slice ao bs.length cap) = W1 := set_same blk1 (j := 0) rfl
  have x1 : W1.setCell ⟨w.heap.size, 1, none⟩ (.int .i64 0) = W1 := set_same blk1 (j := 1) rfl
  have x2 : W1.setCell ⟨w.heap.size, 2, none⟩ (.int .i64 0) = W1 := set_same blk1 (j := 2) rfl
  clear blk1
  go_enter Try.func121, Try.ntmps121
  go_wp2_with fail
  refine (bnum_any w W1 w.heap.size _ bs 0 false 8 r1 hl (by omega)).mono ?_
  rintro E w2 ⟨c, a2, bad2, rfl, r2, gr2, s2⟩
  have hc8 := Bm.ss_le s2
  have sz2 := gr2.size
  have LS0 := hide (Bm.ls_start s2)
  clear s2 r1
  go_wp2_with (at_make; refine wpList_make_own _ rfl _ _ 30 rfl (w.heap.size + 1) 66 i0 (.agg #[.bool false, .string ⟨#[]⟩, .string ⟨#[]⟩]) 3 Try.underlying30 hi hz0 hz1 _ _ _ c rfl rfl (by omega) ?b2 ?b3 (by omega) ?_)
  case b2 => rw [hz2]; omega
  case b3 => unfold maxLen; omega
  intro w3 hown3 hgrow3
  have bel3 : Below w2.heap.size w2 w3 := (Below.refl _ _).grown hgrow3 (Nat.le_refl _) (by simp)
  have own3 : OwnO 66 (w.heap.size + 1) w3 (.slice (some ⟨w2.heap.size, 0, none⟩) 0 c) [] := hown3
  have r3 := r2.below bel3
  have sz3 := bel3.size
  clear r2 bel3 hown3 hgrow3 gr2 c0 c1 c2 f0 f1 f2 x0 x1 x2 hW1 bel1
  go_wp2
  go_loopw [2, 7, 15] (fun lv av i wr => ∃ (k : Nat) (l : List Bm.Ov) (ah : ByteArray) (a : Nat) (bad : Bool), k ≤ c ∧ i = .int .i64 k ∧ av = .string ah ∧ ah.size ≤ 16 ∧ l.length = k ∧ Hid (SmallO l) ∧ OwnO 66 (w.heap.size + 1) wr lv l ∧ Brd w wr w.heap.size (.slice ao bs.length cap) bs a bad ∧ Hid (Bm.LS bs c l a bad ah.data.toList)) (fun _ _ i _ => c - (intOf i).toNat)
  case atStart => exact ⟨0, [], ⟨#[]⟩, a2, bad2, by omega, rfl, rfl, by simp [ByteArray.size], rfl, hide (fun o ho => by simp at ho), own3, r3, LS0⟩
  case round =>
    obtain ⟨k, l, ah, a, bad, hk, rfl, rfl, hah, hlk, HS, own, r, L⟩ := hrel
    have hgl := r.lt
    by_cases hlt : k < c
    · have hlt' : (k : Int) < c := by omega
      go_wp2_with fail
      refine (bop_any w wr w.heap.size _ bs a bad ah r hl hah).mono ?_
      rintro E w4 ⟨o, a4, bad4, rfl, r4, gr4, os4, hok, hov⟩
      unfold opv
      have sz4 := gr4.size
      have own4 := own.kept gr4 (by
        rcases hv : Value.ownBlock _ with _ | b
        · exact .inl rfl
        · refine .inr fun e => ?_
          have := own.block b hv
          simp at e
          omega)
      have own4b := own4.block
      have L4 := hide (Bm.ls_step L.out (by omega) os4)
      have HS4 := hide (HS.out.snoc hok hov)
      obtain ⟨w5, hw5, sz5, bel5, blk5⟩ := blk_step w4 #[.bool o.p, .string o.k, .string o.v] 66
      have p0 : w5.cell? ⟨w4.heap.size, 0, none⟩ = some (.bool o.p) := blk_cell blk5 0 rfl
      have p1 : w5.cell? ⟨w4.heap.size, 1, none⟩ = some (.string o.k) := blk_cell blk5 1 rfl
      have p2 : w5.cell? ⟨w4.heap.size, 2, none⟩ = some (.string o.v) := blk_cell blk5 2 rfl
      have q0 := blk_froz blk5 0
      have q1 := blk_froz blk5 1
      have q2 := blk_froz blk5 2
      have x0 : w5.setCell ⟨w4.heap.size, 0, none⟩ (.bool o.p) = w5 := set_same blk5 (j := 0) rfl
      have x1 : w5.setCell ⟨w4.heap.size, 1, none⟩ (.string o.k) = w5 := set_same blk5 (j := 1) rfl
      have x2 : w5.setCell ⟨w4.heap.size, 2, none⟩ (.string o.v) = w5 := set_same blk5 (j := 2) rfl
      have own5 := own4.below bel5
      have r5 := r4.below bel5
      obtain ⟨w6, hw6, sz6, bel6, own6⟩ := ops_step 66 w5 #[.bool o.p, .string o.k, .string o.v] 1 [o] rfl rfl (by simp [maxLen])
      rw [sz5] at own6
      have own7 := own5.below bel6
      have r6 := r5.below bel6
      have blk6 := (bel6.block w4.heap.size (by omega)).trans blk5
      have B6 := hide blk6
      have R6 := hide r6
      clear os4 own own4 own5 r r4 r5 r6 blk5 blk6 bel5 bel6 gr4 L HS
      go_wp2_with (at_builtin; refine wpList_append_ops rfl (.tmp 19) (.tmp 21) 30 rfl 66 (w.heap.size + 1) Try.underlying30 Try.info66 _ l rfl own7 _ [o] rfl own6.is (by simp; omega) (by omega) ?_)
      intro v8 w8 own8 bel8 gr8
      have blk8 := (gr8.block w4.heap.size (by omega) (fun e => by have := own4b _ e.symm; omega)).trans B6.out
      have r8 : Brd w w8 w.heap.size (.slice ao bs.length cap) bs a4 bad4 := by
        obtain ⟨h1, h2, h3, h4, h5⟩ := R6.out
        have hs := h3.size
        exact ⟨h1, h2, h3.trans (bel8.mono (by omega)), (bel8.block w.heap.size (by omega)).trans h4, h5⟩
      have k1 : w8.cell? ⟨w4.heap.size, 1, none⟩ = some (.string o.k) := blk_cell blk8 1 rfl
      clear blk8 own7 own6 gr8 bel8 B6 R6 p0 p1 p2 q0 q1 q2 x0 x1 x2 own4b hw5 hw6
      go_wp2
      go_roundw
      case rel => exact ⟨k + 1, l ++ [o], o.k, a4, bad4, by omega, by go_num, rfl, hok, by simp [hlk], HS4, own8, r8, L4⟩
      case measure => simp [intOf]; omega
    · have hke : k = c := by omega
      have hlt' : ¬ (k : Int) < c := by omega
      have belr : Below w.heap.size w wr := r.2.2.1
      cases bad
      · have e2 := r.good
        have e1 := r.cell1
        have R := hide r
        clear r
        by_cases hc : Bm.chkL l = 0
        · have HR := hide (Bm.ls_end L.out (by omega) hc)
          have HC := hide hc
          clear hc L
          go_wp2_with fail
          refine (bcheck_any _ l _ own.is HS.out.fit (by omega)).mono ?_
          rintro E w9 ⟨rfl, bel9⟩
          rw [HC.out]
          have r9 := R.out.below bel9
          have e19 := r9.cell1
          have own9 := (own.below bel9).rebase (base' := w.heap.size) (by omega)
          have bel10 : Below w.heap.size w w9 := belr.trans (bel9.mono belr.size)
          clear own r9 bel9
          go_wp2_with fail
          go_quiet (fail)
          go_wp2
          refine bodyPost_ret (v := .tuple #[_, .int .i64 (a : Int), .int .i64 0]) (by simp [results, Try.results121, go_sem]; rfl) rfl ?_
          exact ⟨_, l, _, _, rfl, own9.below (below_drewN (Below.refl _ _) nq), HR.out, below_drewN bel10 nq⟩
        · have HR := hide (Bm.ls_bad L.out (fun _ => by omega) (.inr hc))
          obtain ⟨cc, hcc⟩ : ∃ cc, Bm.chkL l = cc := ⟨_, rfl⟩
          have hcb : (cc != 0) = true := by rw [← hcc]; simpa using hc
          have HC := hide hcc
          clear hc L hcc
          go_wp2_with fail
          refine (bcheck_any _ l _ own.is HS.out.fit (by omega)).mono ?_
          rintro E w9 ⟨rfl, bel9⟩
          rw [HC.out]
          have bel10 : Below w.heap.size w w9 := belr.trans (bel9.mono belr.size)
          go_wp2
          refine bodyPost_ret (v := .tuple #[.slice none 0 0, .int .i64 0, .int .i64 5]) (by simp [results, Try.results121, go_sem]) rfl ?_
          exact ⟨_, [], _, _, rfl, OwnO.nil _ _ _, HR.out, bel10⟩
      · have e2 := r.evil
        have HR := hide (Bm.ls_bad L.out (fun h => by simp at h) (.inl rfl))
        clear L r
        go_wp2
        refine bodyPost_ret (v := .tuple #[.slice none 0 0, .int .i64 0, .int .i64 5]) (by simp [results, Try.results121, go_sem]) rfl ?_
        exact ⟨_, [], _, _, rfl, OwnO.nil _ _ _, HR.out, belr⟩

end Go.Proofs.Ytkpnkknolobioaa

/- The contracts of the document's reader: Small, Bytes. -/
namespace Go.Proofs.Ytkpnkknolobioaa
open Go.RowKit
set_option linter.unusedVariables false

theorem Try.elemB : Try.prog.underlying 25 = some (.slice (Try.prog.elem 25)) := by kernel_rfl
theorem Try.sizeE (wx : World) : (sizeOf (Try.prog.elem 25)).run Try.prog wx = .ok 1 wx := by kernel_rfl

/-- A reader in block g: of the bytes bs (they lie where w0 has them), at a place, bad or not. -/
def Rdr (w0 w : World) (g : Nat) (vb : Value) (bs : List Int) (a : Nat) (bad : Bool) : Prop :=
  Is .u8 w0 vb bs ∧ w0.heap.size ≤ g ∧ Below w0.heap.size w0 w ∧ w.heap[g]? = some (.cells #[vb, .int .i64 a, .bool bad] 105 (0, 0)) ∧ a ≤ bs.length

theorem Rdr.lt {w0 w : World} {g a : Nat} {vb : Value} {bs : List Int} {bad : Bool} (h : Rdr w0 w g vb bs a bad) : g < w.heap.size := by
  rcases Nat.lt_or_ge g w.heap.size with h' | h'
  · exact h'
  · have := h.2.2.2.1
    simp [Array.getElem?_eq_none h'] at this

theorem Rdr.is {w0 w : World} {g a : Nat} {vb : Value} {bs : List Int} {bad : Bool} (h : Rdr w0 w g vb bs a bad) : Is .u8 w vb bs := h.1.below h.2.2.1

theorem Rdr.below {w0 w w' : World} {g a : Nat} {vb : Value} {bs : List Int} {bad : Bool} (h : Rdr w0 w g vb bs a bad) (hb : Below w.heap.size w w') : Rdr w0 w' g vb bs a bad := by
  have hl := h.lt
  have hs := h.2.2.1.size
  exact ⟨h.1, h.2.1, h.2.2.1.trans (hb.mono hs), (hb.block g hl).trans h.2.2.2.1, h.2.2.2.2⟩

theorem Rdr.cell0 {w0 w : World} {g a : Nat} {vb : Value} {bs : List Int} {bad : Bool} (h : Rdr w0 w g vb bs a bad) : w.cell? ⟨g, 0, none⟩ = some vb := by simp [World.cell?, h.2.2.2.1]
theorem Rdr.cell1 {w0 w : World} {g a : Nat} {vb : Value} {bs : List Int} {bad : Bool} (h : Rdr w0 w g vb bs a bad) : w.cell? ⟨g, 1, none⟩ = some (.int .i64 a) := by simp [World.cell?, h.2.2.2.1]
theorem Rdr.cell2 {w0 w : World} {g a : Nat} {vb : Value} {bs : List Int} {bad : Bool} (h : Rdr w0 w g vb bs a bad) : w.cell? ⟨g, 2, none⟩ = some (.bool bad) := by simp [World.cell?, h.2.2.2.1]
theorem Rdr.froz {w0 w : World} {g a : Nat} {vb : Value} {bs : List Int} {bad : Bool} (h : Rdr w0 w g vb bs a bad) (j : Nat) : w.frozen? ⟨g, j, none⟩ = false := by simp [World.frozen?, h.2.2.2.1]

theorem Rdr.put1 {w0 w : World} {g a : Nat} {vb : Value} {bs : List Int} {bad : Bool} (h : Rdr w0 w g vb bs a bad) (a' : Nat) (ha : a' ≤ bs.length) : Rdr w0 (w.setCell ⟨g, 1, none⟩ (.int .i64 a')) g vb bs a' bad :=
  ⟨h.1, h.2.1, h.2.2.1.setCell (p := ⟨g, 1, none⟩) h.2.1 _, by rw [set_cells h.2.2.2.1]; rfl, ha⟩
theorem Rdr.put2 {w0 w : World} {g a : Nat} {vb : Value} {bs : List Int} {bad : Bool} (h : Rdr w0 w g vb bs a bad) (bad' : Bool) : Rdr w0 (w.setCell ⟨g, 2, none⟩ (.bool bad')) g vb bs a bad' :=
  ⟨h.1, h.2.1, h.2.2.1.setCell (p := ⟨g, 2, none⟩) h.2.1 _, by rw [set_cells h.2.2.2.1]; rfl, h.2.2.2.2⟩

/-- What a reader's Small does. -/
def SStep (bs : List Int) (most a : Nat) (bad : Bool) (u a' : Nat) (bad' : Bool) : Prop :=
  (bad = true ∧ bad' = true ∧ u = 0 ∧ a' = a) ∨ (bad = false ∧ bad' = true ∧ u = 0 ∧ a' = a ∧ ∀ x : Nat, x ≤ most → ¬ Vm.enc x <+: bs.drop a) ∨ (bad = false ∧ bad' = false ∧ u ≤ most ∧ Vm.enc u <+: bs.drop a ∧ a' = a + Vm.sz u)

/-- What a reader's Bytes does. -/
def BStep (bs : List Int) (n a : Nat) (bad : Bool) (zs : List Int) (a' : Nat) (bad' : Bool) : Prop :=
  ((bad = true ∨ bs.length - a < n) ∧ bad' = true ∧ zs = [] ∧ a' = a) ∨ (bad = false ∧ n ≤ bs.length - a ∧ bad' = false ∧ zs = (bs.drop a).take n ∧ a' = a + n)

set_option maxHeartbeats 400000 in
theorem rsmall_any (w0 w : World) (g : Nat) (vb : Value) (bs : List Int) (a : Nat) (bad : Bool) (most : Nat) (h : Rdr w0 w g vb bs a bad) (hl : bs.length ≤ 150000000000000) (hm : most < 9223372036854775808) :
    Calls Try.prog 79 #[.pointer (some ⟨g, 0, none⟩), .int .i64 most] w fun E w' => ∃ (u a' : Nat) (bad' : Bool), E = .returned (.int .i64 u) ∧ Rdr w0 w' g vb bs a' bad' ∧ w.grownBy w' (some g) ∧ SStep bs most a bad u a' bad' := by
  have c0 := h.cell0
  have c1 := h.cell1
  have c2 := h.cell2
  have ha := h.2.2.2.2
  cases bad
  · obtain ⟨vs, hsl, isl⟩ := h.is.slice_l Try.elemB Try.sizeE a ha
    obtain ⟨u, i, e, hS⟩ := sres_is (bs.drop a) most
    have hdl : (bs.drop a).length = bs.length - a := by rw [List.length_drop]
    rcases hS with ⟨hR, h1, h2, he⟩ | ⟨hu, hi, he, x, n, f, hR, hcase⟩
    · have hbd := Vm.res_bounds hR
      obtain ⟨un, rfl⟩ : ∃ un : Nat, u = un := ⟨u.toNat, by omega⟩
      obtain ⟨n, rfl⟩ : ∃ n : Nat, i = n := ⟨i.toNat, by omega⟩
      have hG : SStep bs most a false un (a + n) false := by
        rcases hR with ⟨x, hx, hp, h3, h4, _⟩ | ⟨_, _, _, h5⟩
        · have : x = un := by omega
          subst this
          exact .inr (.inr ⟨rfl, rfl, by omega, hp, by omega⟩)
        · simp at h5
      have hS : SRes (bs.drop a) most un n 0 := .inl ⟨hR, h1, h2, rfl⟩
      have HG := hide hG
      have HS := hide hS
      have HH := hide h
      have hn1 : a + n ≤ bs.length := by omega
      have hn2 : n ≤ 10 := by omega
      clear hS hG hR hbd h he h1 h2
      go_enter Try.func79, Try.ntmps79
      go_wp2_with fail
      go_region_with (go_at_call 106; refine (smallR_any _ (bs.drop a) most un n 0 _ (isl.drewN 1) (by omega) (by omega) (by omega) HS.out).mono ?_; rintro E w1 ⟨rfl, bel1'⟩; have bel1 : Below w.heap.size w w1 := ((Below.refl _ _).drew).trans bel1'; have hr := HH.out.below bel1; have k1 := hr.cell1; have f1 := hr.froz 1; have HR := hide hr; clear hr bel1')
      all_goals
        clear isl hsl
        go_wp2
        go_ret
        exact ⟨un, a + n, false, rfl, HR.out.put1 (a + n) hn1, grown_trans (grown_of_below bel1 _) (grown_setCell _ _ _), HG.out⟩
    · have hG : SStep bs most a false 0 a true := by
        refine .inr (.inl ⟨rfl, rfl, rfl, rfl, fun y hy hp => ?_⟩)
        have := Vm.res_good hR (u := y) (by omega) hp
        omega
      have hS : SRes (bs.drop a) most 0 0 5 := .inr ⟨rfl, rfl, rfl, x, n, f, hR, hcase⟩
      have HG := hide hG
      have HS := hide hS
      have HH := hide h
      clear hS hG hR h he hcase hu hi
      go_enter Try.func79, Try.ntmps79
      go_wp2_with fail
      go_region_with (go_at_call 106; refine (smallR_any _ (bs.drop a) most 0 0 5 _ (isl.drewN 1) (by omega) (by omega) (by omega) HS.out).mono ?_; rintro E w1 ⟨rfl, bel1'⟩; have bel1 : Below w.heap.size w w1 := ((Below.refl _ _).drew).trans bel1'; have hr := HH.out.below bel1; have k1 := hr.cell2; have f1 := hr.froz 2; have HR := hide hr; clear hr bel1')
      all_goals
        clear isl hsl
        go_wp2
        go_ret
        exact ⟨0, a, true, rfl, HR.out.put2 true, grown_trans (grown_of_below bel1 _) (grown_setCell _ _ _), HG.out⟩
  · have HH := hide h
    clear h
    go_enter Try.func79, Try.ntmps79
    go_wp2
    go_ret
    exact ⟨0, a, true, rfl, HH.out, World.grownBy.refl _ _, .inl ⟨rfl, rfl, rfl, rfl⟩⟩

set_option maxHeartbeats 400000 in
theorem rbytes_any (w0 w : World) (g : Nat) (vb : Value) (bs : List Int) (a : Nat) (bad : Bool) (n : Nat) (h : Rdr w0 w g vb bs a bad) (hl : bs.length ≤ 150000000000000) (hm : n < 9223372036854775808) :
    Calls Try.prog 105 #[.pointer (some ⟨g, 0, none⟩), .int .i64 n] w fun E w' => ∃ (v : Value) (zs : List Int) (a' : Nat) (bad' : Bool), E = .returned v ∧ Own .u8 5 w.heap.size w' v zs ∧ Rdr w0 w' g vb bs a' bad' ∧ w.grownBy w' (some g) ∧ BStep bs n a bad zs a' bad' := by
  have c0 := h.cell0
  have c1 := h.cell1
  have c2 := h.cell2
  have f1 := h.froz 1
  have f2 := h.froz 2
  have ha := h.2.2.2.2
  have hgl := h.lt
  have hlen := h.is.len_run Try.elemB
  cases bad
  · by_cases hn : n ≤ bs.length - a
    · obtain ⟨vs, hsl, isl⟩ := h.is.slice_lh Try.elemB Try.sizeE a (a + n) (by omega) (by omega)
      rw [show a + n - a = n by omega] at isl
      have hsl2 : ∀ wx, (Instr.slice 25 vb (some (.int .i64 (a : Int))) (some (.int .i64 ((a : Int) + (n : Int)))) none).run Try.prog wx = .ok vs wx := by simpa using hsl
      have hwr : IntKind.i64.wrap ((a : Int) + (n : Int)) = (a : Int) + n := wrap_i64_small _ (by omega) (by omega)
      clear hsl
      have hge : ¬ (bs.length : Int) - a < n := by omega
      have HH := hide h
      have hlt : ((bs.drop a).take n).length = n := by rw [List.length_take, List.length_drop]; omega
      clear h
      go_enter Try.func105, Try.ntmps105
      go_wp2_with fail
      go_quiet (fail)
      have is2 : ∀ m, Is .u8 (w.drewN m) vs ((bs.drop a).take n) := fun m => isl.drewN m
      go_wp2_with fail
      go_region_law (refine step_append_is rfl (.tmp 27) (.tmp 42) 25 rfl .u8 5 w.heap.size 1 Try.underlying25 Try.info5 (by decide) _ [] (by simp [Act.eval, Act.put]) (Own.nil _ _ _ _) _ ((bs.drop a).take n) (by simp [Act.eval, Act.put]) (is2 _) (by simp; omega) (by simp) ?_; intro v3 w3 own3 bel3' _; have bel3 : Below w.heap.size w w3 := (below_drewN (Below.refl _ _) _).trans bel3'; have hr := HH.out.below bel3; have k1 := hr.cell1; have g1 := hr.froz 1; have HR := hide hr; clear hr bel3')
      all_goals
        rw [List.nil_append] at own3
        have own4 := own3.kept (grown_setCell w3 ⟨g, 1, none⟩ (.int .i64 ((a + n : Nat) : Int))) (by
          cases hv : v3.ownBlock with
          | none => exact .inl rfl
          | some b => exact .inr (fun e => by have := own3.block b hv; simp at e; omega))
        clear is2 isl hsl2
        go_wp2
        go_ret
        exact ⟨_, _, a + n, false, rfl, own4, HR.out.put1 (a + n) (by omega), grown_trans (grown_of_below bel3 _) (grown_setCell _ _ _), .inr ⟨rfl, hn, rfl, rfl, rfl⟩⟩
    · have hge : (bs.length : Int) - a < n := by omega
      have HH := hide h
      clear h
      go_enter Try.func105, Try.ntmps105
      go_wp2_with fail
      go_quiet (fail)
      go_wp2
      go_ret
      exact ⟨_, [], a, true, rfl, Own.nil _ _ _ _, (HH.out.below (below_drewN (Below.refl _ _) nq)).put2 true, grown_trans (grown_drewN _ _ _) (grown_setCell _ _ _), .inl ⟨.inr (by omega), rfl, rfl, rfl⟩⟩
  · have HH := hide h
    clear h
    go_enter Try.func105, Try.ntmps105
    go_wp2_with fail
    go_quiet (fail)
    go_wp2
    go_ret
    exact ⟨_, [], a, true, rfl, Own.nil _ _ _ _, (HH.out.below (below_drewN (Below.refl _ _) nq)).put2 true, grown_trans (grown_drewN _ _ _) (grown_setCell _ _ _), .inl ⟨.inl rfl, rfl, rfl, rfl⟩⟩

end Go.Proofs.Ytkpnkknolobioaa
