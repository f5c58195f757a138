/- The contract of the document's commits (of a ship). -/
import Derived.Test.YtjaiemdefngbbaaXq
namespace Go.Proofs.Ytjaiemdefngbbaa
open Go.RowKit
set_option linter.unusedVariables false

/-- The reader's Small, its answer known. -/
theorem rsmall_at (w0 w : World) (g : Nat) (vb : Value) (bs : List Int) (a : Nat) (bad : Bool) (most u a' : Nat) (bad' : Bool) (h : Rdr w0 w g vb bs a bad) (hl : bs.length ≤ 100000000000000) (hm : most < 9223372036854775808) (hS : SStep bs most a bad u a' bad') :
    Calls Try.prog 46 #[.pointer (some ⟨g, 0, none⟩), .int .i64 most] w fun E w' => E = .returned (.int .i64 u) ∧ Hid (Rdr w0 w' g vb bs a' bad' ∧ w.grownBy w' (some g)) := by
  refine (rsmall_any w0 w g vb bs a bad most h (by omega) hm).mono ?_
  rintro E w' ⟨v, a2, b2, rfl, h1, h2, h3⟩
  obtain ⟨rfl, rfl, rfl⟩ := sstep_one hS h3
  exact ⟨rfl, hide ⟨h1, h2⟩⟩

theorem no_frm' {bs : List Int} {a : Nat} (h : ∀ x : Nat, x ≤ 65536 → ¬ Vm.enc x <+: bs.drop a) : ∀ c' : Cm.Cv, Cm.chk c'.e c'.n c'.l = 0 → ¬ Fm.frm (Mm.cb c') <+: bs.drop a := fun c' hc hp => by
  obtain ⟨h1, _, _⟩ := Fm.frm_pre hp
  have : (Mm.cb c').length ≤ 430 := Cm.encC_small hc
  exact h _ (by omega) h1

/-- What the document's three steps of reading one commit come to. -/
theorem cstep_doc {bs zs : List Int} {a u a1 a2 : Nat} {b1 b2 : Bool} {e n g : Int} {l : List Bm.Ov} (s1 : SStep bs 65536 a false u a1 b1) (s2 : BStep bs u a1 b1 zs a2 b2) (hC : Cm.CRes zs e n l g) : Mm.CStep bs a false ⟨e, n, l⟩ a2 (b2 || (g != 0)) ∧ CFit e n l ∧ u ≤ 65536 := by
  have hu := sstep_max s1
  have hfit : CFit e n l := by
    rcases hC with ⟨_, h, _⟩ | ⟨_, rfl, rfl, rfl, _⟩
    · exact cfit_ok h
    · exact cfit_no
  refine ⟨?_, hfit, hu⟩
  rcases s1 with ⟨h, _⟩ | ⟨_, rfl, rfl, rfl, h1⟩ | ⟨_, rfl, _, h2, rfl⟩
  · simp at h
  · rcases s2 with ⟨_, rfl, _, _⟩ | ⟨h, _⟩
    · exact .inr (.inl ⟨rfl, by simp, no_frm' h1⟩)
    · simp at h
  · rcases s2 with ⟨h, rfl, _, _⟩ | ⟨_, h3, rfl, rfl, rfl⟩
    · rcases h with h | h
      · simp at h
      · exact .inr (.inl ⟨rfl, by simp, no_room h2 h⟩)
    · rcases hC with ⟨rfl, hc, he⟩ | ⟨rfl, _, _, _, hno⟩
      · exact one_good h2 h3 hc he
      · exact .inr (.inl ⟨rfl, by simp, one_bad h2 h3 hno⟩)

theorem ShS.rd {b g : Nat} {w w' : World} {vc : Value} {cs : List Cw} (h : ShS b w vc cs) (hg : w.grownBy w' (some g)) (hb : g < b) : ShS b w' vc cs := h.out (F := fun i => i = g) (Out.of_grown hg (fun i hi => by simpa using hi.symm)) (fun i hi => by omega)

theorem Rdr.bas2 {w0 w w' : World} {g a b : Nat} {vb : Value} {bs : List Int} {bad : Bool} (h : Rdr w0 w g vb bs a bad) (hb : Below b w w') (hg : g < b) : Rdr w0 w' g vb bs a bad := by
  have h2 := h.2.1
  exact ⟨h.1, h.2.1, h.2.2.1.trans (hb.mono (by omega)), (hb.block g hg).trans h.2.2.2.1, h.2.2.2.2⟩

/-- What the document's commits comes to. -/
def CmR (w0 w : World) (g : Nat) (vb : Value) (bs : List Int) (x2 x3 x4 : Int) (E : Ending) (w' : World) : Prop :=
  ∃ (v : Value) (cs : List Cw) (a' : Nat) (bad' : Bool) (n : Nat), E = .returned v ∧ Hid (ShS w.heap.size w' v cs ∧ Rdr w0 w' g vb bs a' bad' ∧ w.grownBy w' (some g) ∧ Mm.GoC bs [2, x2, x3, x4, (n : Int)] (cvs cs) a' bad' ∧ (bad' = false → cs.length = n) ∧ cs.length ≤ 4)

set_option maxRecDepth 100000 in
set_option maxHeartbeats 2000000 in
theorem commitsR_any (w0 w : World) (g : Nat) (vb : Value) (bs : List Int) (a : Nat) (bad : Bool) (h : Rdr w0 w g vb bs a bad) (hl : bs.length ≤ 100000000000000) (x2 x3 x4 : Int) (hG : Mm.Go bs [2, x2, x3, x4] a bad) :
    Calls Try.prog 47 #[.pointer (some ⟨g, 0, none⟩)] w (CmR w0 w g vb bs x2 x3 x4) := by
  obtain ⟨nn, a5, b5, S5⟩ := sstep_is bs 4 a bad
  have hu5 := sstep_max S5
  have G5 : Hid (Mm.GoC bs [2, x2, x3, x4, (nn : Int)] (cvs []) a5 b5) := hide (Mm.go_step hG S5 (Mm.nx_24 _ _ _)).c
  have C1 := hide (rsmall_at w0 w g vb bs a bad 4 nn a5 b5 h hl (by omega) S5)
  have hgw := h.lt
  clear S5 hG h
  go_enter Try.func47, Try.ntmps47
  go_wp2_with fail
  refine C1.out.mono ?_
  rintro E w1 ⟨rfl, H1⟩
  go_wp2
  go_loopw [3, 4] (fun lv nv wr => ∃ (left a : Nat) (bad : Bool) (cs : List Cw), nv = .int .i64 left ∧ left ≤ 4 ∧ Hid (cs.length + left = nn) ∧ Hid (Rdr w0 wr g vb bs a bad ∧ w.grownBy wr (some g) ∧ ShS w.heap.size wr lv cs) ∧ Hid (Mm.GoC bs [2, x2, x3, x4, (nn : Int)] (cvs cs) a bad)) (fun _ nv _ => (intOf nv).toNat)
  case atStart => exact ⟨nn, a5, b5, [], rfl, hu5, hide (by simp), hide ⟨H1.out.1, H1.out.2, ShS.nil _ _⟩, G5⟩
  case round =>
    clear H1 G5 C1
    obtain ⟨left, a, bad, cs, rfl, hlf, HL, HR, HG⟩ := hrel
    have c2 := HR.out.1.cell2
    have hgr := HR.out.1.lt
    have szr := HR.out.2.1.size
    by_cases hcont : 0 < left ∧ bad = false
    · obtain ⟨hlt, rfl⟩ := hcont
      have hlt' : (0 : Int) < left := by omega
      obtain ⟨u, a1, b1, SA⟩ := sstep_is bs 65536 a false
      have hu := sstep_max SA
      have C2 := hide (rsmall_at w0 wr g vb bs a false 65536 u a1 b1 HR.out.1 hl (by omega) SA)
      have XA := hide SA
      clear SA
      go_wp2_with fail
      refine C2.out.mono ?_
      rintro E z1 ⟨rfl, H1⟩
      have sz1 := H1.out.2.size
      go_wp2_with fail
      refine (rbytes_any w0 z1 g vb bs a1 b1 u H1.out.1 (by omega) (by omega)).mono ?_
      rintro E z2 ⟨v2, zs, a2, b2, rfl, own2, r2, gr2, s2⟩
      have sz2 := gr2.size
      have hzl : zs.length ≤ 100000000000000 := by
        rcases s2 with ⟨_, _, rfl, _⟩ | ⟨_, _, _, rfl, _⟩
        · simp
        · rw [List.length_take, List.length_drop]; omega
      have R2 := hide r2
      have W2 : Hid (w.grownBy z2 (some g)) := hide (grown_trans HR.out.2.1 (grown_trans H1.out.2 gr2))
      have S2 : Hid (ShS w.heap.size z2 _ cs) := hide ((HR.out.2.2.rd H1.out.2 hgw).rd gr2 hgw)
      have X2 := hide s2
      have C3 := hide (cdecR_any v2 zs z2 own2.is (by omega))
      clear own2 r2 gr2 s2 H1 C2 HR c2
      go_wp2_with fail
      refine C3.out.mono ?_
      rintro E z3 ⟨e, n, gg, vl, l, rfl, ownl, hC, bel3⟩
      unfold cmv
      have sz3 := bel3.size
      obtain ⟨hCS, hCF, _⟩ := cstep_doc XA.out X2.out hC
      obtain ⟨ya, yl, yc, hvl⟩ : ∃ x y z, vl = .slice x y z := by
        obtain ⟨x, z, hv, _, _⟩ := ownl.is.shape
        exact ⟨x, _, z, hv⟩
      subst hvl
      obtain ⟨V, hV, hV2, szV, belV, _, y0, y1, y2⟩ := new_step z3 36 (.int .i64 0) (.int .i64 0) (.slice none 0 0) (.int .i64 e) (.int .i64 n) (.slice ya yl yc)
      have bel2V : Below z2.heap.size z2 V := bel3.trans (belV.mono (by omega))
      have szW : z3.heap.size + 1 ≤ V.heap.size := by omega
      clear szV
      have RV := hide (R2.out.below bel2V)
      have WV : Hid (w.grownBy V (some g)) := hide (grown_base W2.out (bel2V.mono (by omega)))
      have SV := hide (S2.out.below bel2V)
      have OV : Hid (OwnO 33 z2.heap.size V (.slice ya yl yc) l) := hide (ownl.below belV)
      have HLT : Hid (∀ d ∈ cs, ∀ i, d.v.ownBlock = some i → i < z2.heap.size) := hide fun d hd i hi => (World.ownsRow.lt (S2.out.o d hd) i hi).2
      have HCF := hide hCF
      have hg01 := Cm.cres_e hC
      have HCS := hide hCS
      have hll := HL.out
      clear C3 ownl bel3 belV hCF hCS hC R2 W2 S2 XA X2 bel2V
      rcases hg01 with rfl | rfl
      · have hbb : (b2 || ((0 : Int) != 0)) = b2 := by simp
        rw [hbb] at HCS
        obtain ⟨z5, hz5, sz5, bel5, own5⟩ := coms_step 36 V #[.int .i64 e, .int .i64 n, .slice ya yl yc] 1 [⟨e, n, .slice ya yl yc, l⟩] rfl rfl (by simp [maxLen])
        have szX : V.heap.size ≤ z5.heap.size := by omega
        clear sz5
        have hO5 := (SV.out.below bel5).c
        have HS5 := hide (SV.out.below bel5)
        have HR5 := hide (RV.out.below bel5)
        have HW5 : Hid (w.grownBy z5 (some g)) := hide (grown_base WV.out (bel5.mono (by omega)))
        have HO5 := hide (OV.out.below bel5)
        go_wp2_with (at_builtin; refine wpList_append_coms rfl (.tmp 33) (.tmp 35) 28 rfl 36 w.heap.size Try.underlying28 Try.info36 _ cs rfl hO5 _ _ rfl own5.row (by intro c hc; rw [List.mem_singleton.1 hc]; rfl) (by rw [List.length_singleton]; omega) (by omega) ?_)
        intro v6 z6 own6 bel6 kp6
        have S6 := hide (HS5.out.snoc kp6 own6 HO5.out (by omega) HLT.out HCF.out)
        have R6 := hide (HR5.out.bas2 bel6 hgw)
        have W6 : Hid (w.grownBy z6 (some g)) := hide (grown_base HW5.out bel6)
        have HG2 : Hid (Mm.GoC bs [2, x2, x3, x4, (nn : Int)] (cvs (cs ++ [⟨e, n, .slice ya yl yc, l⟩])) a2 b2) := hide (by
          have := Mm.goc_step HG.out HCS.out (by rw [cvs_length]; omega)
          simpa [cvs, Cw.c] using this)
        clear own5 own6 bel6 kp6 bel5 hO5 HS5 HR5 HW5 HO5 y0 y1 y2 hV hV2 hz5
        go_wp2
        go_roundw
        case rel => exact ⟨left - 1, a2, b2, _, by rw [show ((left - 1 : Nat) : Int) = (left : Int) - 1 by omega], by omega, hide (by rw [List.length_append]; simp; omega), hide ⟨R6.out, W6.out, S6.out⟩, HG2⟩
        case measure => simp [intOf]; omega
      · have hbb : (b2 || ((5 : Int) != 0)) = true := by simp
        rw [hbb] at HCS
        have cB := RV.out.cell2
        have fB := RV.out.froz 2
        have hgV := RV.out.lt
        obtain ⟨Y, hY⟩ : ∃ Y, V.setCell ⟨g, 2, none⟩ (.bool true) = Y := ⟨_, rfl⟩
        have gY : V.grownBy Y (some g) := by rw [← hY]; exact grown_setCell _ _ _
        have szY := gY.size
        have RY : Hid (Rdr w0 Y g vb bs a2 true) := hide (by rw [← hY]; exact RV.out.put2 true)
        have WY : Hid (w.grownBy Y (some g)) := hide (grown_trans WV.out gY)
        have SY := hide (SV.out.rd gY hgw)
        have OY : Hid (OwnO 33 z2.heap.size Y (.slice ya yl yc) l) := hide (OV.out.keptg gY (by omega))
        have yb := (gY.cell y0 (by simp; omega))
        have yc1 := (gY.cell y1 (by simp; omega))
        have yd := (gY.cell y2 (by simp; omega))
        obtain ⟨z5, hz5, sz5, bel5, own5⟩ := coms_step 36 Y #[.int .i64 e, .int .i64 n, .slice ya yl yc] 1 [⟨e, n, .slice ya yl yc, l⟩] rfl rfl (by simp [maxLen])
        have szX : V.heap.size ≤ z5.heap.size := by omega
        clear sz5
        have hO5 := (SY.out.below bel5).c
        have HS5 := hide (SY.out.below bel5)
        have HR5 := hide (RY.out.below bel5)
        have HW5 : Hid (w.grownBy z5 (some g)) := hide (grown_base WY.out (bel5.mono (by omega)))
        have HO5 := hide (OY.out.below bel5)
        clear gY
        go_wp2_with (at_builtin; refine wpList_append_coms rfl (.tmp 33) (.tmp 35) 28 rfl 36 w.heap.size Try.underlying28 Try.info36 _ cs rfl hO5 _ _ rfl own5.row (by intro c hc; rw [List.mem_singleton.1 hc]; rfl) (by rw [List.length_singleton]; omega) (by omega) ?_)
        intro v6 z6 own6 bel6 kp6
        have S6 := hide (HS5.out.snoc kp6 own6 HO5.out (by omega) HLT.out HCF.out)
        have R6 := hide (HR5.out.bas2 bel6 hgw)
        have W6 : Hid (w.grownBy z6 (some g)) := hide (grown_base HW5.out bel6)
        have HG2 : Hid (Mm.GoC bs [2, x2, x3, x4, (nn : Int)] (cvs (cs ++ [⟨e, n, .slice ya yl yc, l⟩])) a2 true) := hide (by
          have := Mm.goc_step HG.out HCS.out (by rw [cvs_length]; omega)
          simpa [cvs, Cw.c] using this)
        clear own5 own6 bel6 kp6 bel5 hO5 HS5 HR5 HW5 HO5 y0 y1 y2 yb yc1 yd hV hV2 hz5 hY cB fB
        go_wp2
        go_roundw
        case rel => exact ⟨left - 1, a2, true, _, by rw [show ((left - 1 : Nat) : Int) = (left : Int) - 1 by omega], by omega, hide (by rw [List.length_append]; simp; omega), hide ⟨R6.out, W6.out, S6.out⟩, HG2⟩
        case measure => simp [intOf]; omega
    · have H : Hid (ShS w.heap.size wr _ cs ∧ Rdr w0 wr g vb bs a bad ∧ w.grownBy wr (some g) ∧ Mm.GoC bs [2, x2, x3, x4, (nn : Int)] (cvs cs) a bad ∧ (bad = false → cs.length = nn) ∧ cs.length ≤ 4) := hide ⟨HR.out.2.2, HR.out.1, HR.out.2.1, HG.out, fun h => by
        have := HL.out
        rcases Nat.eq_zero_or_pos left with e | e
        · omega
        · exact absurd ⟨e, h⟩ hcont, by have := HL.out; omega⟩
      by_cases hz : left = 0
      · have hz' : ¬ (0 : Int) < left := by omega
        clear hcont
        go_wp2
        go_ret
        exact ⟨_, cs, a, bad, nn, rfl, H⟩
      · have hz' : (0 : Int) < left := by omega
        have hbt : bad = true := by
          cases bad
          · exact absurd ⟨by omega, rfl⟩ hcont
          · rfl
        subst hbt
        clear hcont
        go_wp2
        go_ret
        exact ⟨_, cs, a, true, nn, rfl, H⟩

end Go.Proofs.Ytjaiemdefngbbaa
