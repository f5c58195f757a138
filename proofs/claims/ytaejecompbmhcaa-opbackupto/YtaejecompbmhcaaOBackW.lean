/- The walk of the law OpBack. -/
import Derived.Test.YtaejecompbmhcaaOlive
import Derived.Test.YtaejecompbmhcaaOpc
import Derived.Test.YtaejecompbmhcaaBlk
namespace Go.Proofs.Ytaejecompbmhcaa
open Go.RowKit
set_option linter.unusedVariables false

theorem absent_index {l : List UInt8} {c : UInt8} (h : c ∉ l) : Lib.indexByte l c = -1 := by
  induction l with
  | nil => rfl
  | cons b l ih =>
    simp only [List.mem_cons, not_or] at h
    have e : (b == c) = false := by simpa using fun e => h.1 e.symm
    simp [Lib.indexByte, e, ih h.2]

/-- The last part of OpBack: words. -/
theorem back_len {z t : List UInt8} (h : Wm.wd z = t) : z.length ≤ t.length := by
  by_cases hz : z = []
  · rw [hz]; simp
  · rw [← h, Wm.wd_full hz]; exact Wm.flat_ge z

set_option maxRecDepth 100000 in
set_option maxHeartbeats 4000000 in
theorem opBack_walk (p : Bool) (k v : ByteArray) (vb : Value) (bs : List Int) (s t : ByteArray) (w : World) (hk : k.size ≤ 140737488351232) (hv : v.size ≤ 140737488351232) (hb : Is .u8 w vb bs) (hl : bs.length * 1 ≤ 140737488351232) (hs : s.size ≤ 1048576) (ht : t.size ≤ 1048576) :
    Calls Try.prog 7 #[opv p k v, vb, .string s, .string t] w fun E w' => E = .returned (.bool true) ∧ Below w.heap.size w w' := by
  rw [Nat.mul_one] at hl
  obtain ⟨ao, cap0, rfl, hcap0, _⟩ := hb.shape
  obtain ⟨w0, hw0, sz0, bel0, blk0⟩ := blk_step w #[.bool p, .string k, .string v] 23
  have hz98 : (⟨(Wm.wd s.data.toList).toArray⟩ : ByteArray).size ≤ 3145730 := by
    have := Wm.wd_le s.data.toList
    rw [← Lib.size_eq] at this
    rw [Lib.size_eq]
    simp only
    omega
  have hzn : (⟨(Wm.wd s.data.toList).toArray⟩ : ByteArray).toList.isEmpty = false := by
    rw [Lib.toList_data]
    simpa using Wm.wd_ne s.data.toList
  have hzi : Lib.indexByte (⟨(Wm.wd s.data.toList).toArray⟩ : ByteArray).data.toList 32 = -1 := absent_index (Wm.wd_blank _)
  obtain ⟨z, hz⟩ : ∃ z : ByteArray, (⟨(Wm.wd s.data.toList).toArray⟩ : ByteArray) = z := ⟨_, rfl⟩
  have hzl : z.data.toList = Wm.wd s.data.toList := by rw [← hz]
  rw [hz] at hz98 hzn hzi
  have HZ := hide hz
  have HZL := hide hzl
  have HZI := hide hzi
  clear hz hzl hzi
  unfold opv
  go_enter Try.func7, Try.ntmps7
  go_wp2_with fail
  refine (lives_any _).mono ?_
  rintro E w1 ⟨rfl, bel1⟩
  have sz1 := bel1.size
  have blk1 := (bel1.block w.heap.size (by omega)).trans blk0
  have c0 : w1.cell? ⟨w.heap.size, 0, none⟩ = some (.bool p) := blk_cell blk1 0 rfl
  have c1 : w1.cell? ⟨w.heap.size, 1, none⟩ = some (.string k) := blk_cell blk1 1 rfl
  have c2 : w1.cell? ⟨w.heap.size, 2, none⟩ = some (.string v) := blk_cell blk1 2 rfl
  go_wp2_with fail
  refine (oapp_any _ [] p k v _ (Is.nil _ _) (by simp) hk hv).mono ?_
  rintro E w2 ⟨va, rfl, owna, bel2⟩
  have sz2 := bel2.size
  have blk2 := (bel2.block w.heap.size (by omega)).trans blk1
  have bel02 : Below w.heap.size w w2 := (bel0.trans (bel1.mono (by omega))).trans (bel2.mono (by omega))
  clear c0 c1 c2 bel0 bel1 bel2 hw0 blk0 blk1
  have hszR : w.heap.size < w2.heap.size := by omega
  rcases Om.chk_two p k.data.toList v.data.toList with hc | hc
  all_goals rw [hc]
  focus
    rw [Om.appd_ok hc, List.nil_append] at owna
    have hel := Om.opEnc_le hc
    have HC := hide hc
    clear hc
    go_wp2_with fail
    refine (copy_any _ _ _ owna.is (by omega)).mono ?_
    rintro E w3 ⟨v3, rfl, own3, bel3⟩
    have sz3 := bel3.size
    have hb3 := hb.below (bel02.trans (bel3.mono (by omega)))
    obtain ⟨aa, ca, hva, _, _⟩ := owna.is.shape
    subst hva
    generalize hen : Om.opEnc p k.data.toList v.data.toList = en at *
    have HEN := hide hen
    clear hen
    go_wp2_with (at_builtin; refine wpList_append_is rfl (.tmp 34) (.tmp 35) 26 rfl .u8 5 w2.heap.size 1 Try.underlying26 Try.info5 (by decide) _ en rfl own3 _ bs rfl hb3 (by omega) (by omega) ?_)
    intro v4 w4 own4 bel4 _
    have sz4 := bel4.size
    have bel24 : Below w2.heap.size w2 w4 := bel3.trans bel4
    have blk4 := (bel24.block w.heap.size hszR).trans blk2
    go_wp2_with fail
    refine (oread_any _ _ _ own4.is (by rw [List.length_append]; omega)).mono ?_
    rintro E w5 ⟨p', k', v', n', f, rfl, hR, bel5⟩
    obtain ⟨hp', hk', hv', rfl, rfl⟩ := Om.ores_good HC.out (by rw [HEN.out]; exact List.prefix_append _ _) hR
    obtain rfl := hp'.symm
    obtain rfl := (ba_ext hk').symm
    obtain rfl := (ba_ext hv').symm
    rw [HEN.out]
    unfold opv
    have sz5 := bel5.size
    have blk5 := (bel5.block w.heap.size (by omega)).trans blk4
    obtain ⟨wA, hwA, szA, bel6, blk6⟩ := blk_step w5 #[.bool p, .string k, .string v] 23
    have O2 := blk_froz blk6 2
    have O1 := blk_froz blk6 1
    have O0 := blk_froz blk6 0
    have e0 : wA.setCell ⟨w5.heap.size, 0, none⟩ (.bool p) = wA := set_same blk6 (j := 0) rfl
    have e1 : wA.setCell ⟨w5.heap.size, 1, none⟩ (.string k) = wA := set_same blk6 (j := 1) rfl
    have e2 : wA.setCell ⟨w5.heap.size, 2, none⟩ (.string v) = wA := set_same blk6 (j := 2) rfl
    have o0 : wA.cell? ⟨w5.heap.size, 0, none⟩ = some (.bool p) := blk_cell blk6 0 rfl
    have o1 : wA.cell? ⟨w5.heap.size, 1, none⟩ = some (.string k) := blk_cell blk6 1 rfl
    have o2 : wA.cell? ⟨w5.heap.size, 2, none⟩ = some (.string v) := blk_cell blk6 2 rfl
    have blkR := (bel6.block w.heap.size (by omega)).trans blk5
    have q0 : wA.cell? ⟨w.heap.size, 0, none⟩ = some (.bool p) := blk_cell blkR 0 rfl
    have q1 : wA.cell? ⟨w.heap.size, 1, none⟩ = some (.string k) := blk_cell blkR 1 rfl
    have q2 : wA.cell? ⟨w.heap.size, 2, none⟩ = some (.string v) := blk_cell blkR 2 rfl
    have belA : Below w.heap.size w wA := ((bel02.trans (bel24.mono (by omega))).trans (bel5.mono (by omega))).trans (bel6.mono (by omega))
    have heq : ((en.length : Int) != (en.length : Int)) = false := by simp
    clear hR hp' hk' hv' own3 own4 owna bel3 bel4 bel24 bel5 blk4 blk5 blk6 blkR blk2 bel6 bel02
    go_wp2_with fail
  rotate_left
  focus
    have belA := bel02
    obtain ⟨wA, rfl⟩ : ∃ wA, wA = w2 := ⟨_, rfl⟩
    clear owna bel02 blk2
    go_wp2_with fail
  all_goals
    refine (oread_any _ bs _ (hb.below belA) (by omega)).mono ?_
    rintro E wB ⟨p1, k1, v1, n1, f1, rfl, hO, bel7⟩
    unfold opv
    have szB := bel7.size
    have szA2 := belA.size
    have hbB := hb.below (belA.trans (bel7.mono (by omega)))
    obtain ⟨wC, hwC, szC, bel8, blk8⟩ := blk_step wB #[.bool p1, .string k1, .string v1] 23
    have O2' := blk_froz blk8 2
    have O1' := blk_froz blk8 1
    have O0' := blk_froz blk8 0
    have e0' : wC.setCell ⟨wB.heap.size, 0, none⟩ (.bool p1) = wC := set_same blk8 (j := 0) rfl
    have e1' : wC.setCell ⟨wB.heap.size, 1, none⟩ (.string k1) = wC := set_same blk8 (j := 1) rfl
    have e2' : wC.setCell ⟨wB.heap.size, 2, none⟩ (.string v1) = wC := set_same blk8 (j := 2) rfl
    have o0' : wC.cell? ⟨wB.heap.size, 0, none⟩ = some (.bool p1) := blk_cell blk8 0 rfl
    have o1' : wC.cell? ⟨wB.heap.size, 1, none⟩ = some (.string k1) := blk_cell blk8 1 rfl
    have o2' : wC.cell? ⟨wB.heap.size, 2, none⟩ = some (.string v1) := blk_cell blk8 2 rfl
    have belC : Below w.heap.size w wC := (belA.trans (bel7.mono (by omega))).trans (bel8.mono (by omega))
    have hbC := hb.below belC
    clear bel7 bel8 blk8 hbB belA
    rcases hO with ⟨hf, hck, hpre, hn⟩ | ⟨hf, hp1, hk1, hv1, hn, _⟩
    all_goals subst hf
    focus
      have hh := Om.chk_ok' hck
      rw [← Lib.size_eq, ← Lib.size_eq] at hh
      have hk2 : k1.size ≤ 140737488351232 := by omega
      have hv2 : v1.size ≤ 140737488351232 := by omega
      have hel1 := Om.opEnc_le hck
      have hpl := hpre.length_le
      have hpos : 0 < (Om.opEnc p1 k1.data.toList v1.data.toList).length := by simp [Om.opEnc]
      have htk := List.prefix_iff_eq_take.1 hpre
      obtain ⟨b1, off1, cc, hform, _, _, _, _⟩ := hb.full (by omega)
      simp only [Value.slice.injEq] at hform
      obtain ⟨rfl, _, rfl⟩ := hform
      have HCK := hide hck
      have HAP := hide (Om.appd_ok (bs := []) hck)
      generalize hen1 : Om.opEnc p1 k1.data.toList v1.data.toList = en1 at *
      subst hn
      have icut := hbC.cut en1.length hpl
      have HTK := hide htk
      have hng : ¬ (bs.length : Int) < (en1.length : Int) := by omega
      have hlc : en1.length ≤ cap0 := by omega
      clear hh hck hpre htk hen1
      go_wp2_with fail
      refine (oapp_any _ [] p1 k1 v1 _ (Is.nil _ _) (by simp) hk2 hv2).mono ?_
      rintro E wE ⟨vE, rfl, ownE, bel9⟩
      rw [HAP.out, List.nil_append] at ownE
      rw [HCK.out]
      have icut2 := icut.below bel9
      have belE := belC.trans (bel9.mono belC.size)
      go_wp2_with fail
      refine (same_yes _ _ _ _ _ ownE.is icut2 (by omega) HTK.out).mono ?_
      rintro E wD ⟨rfl, bel10⟩
      have belD := belE.trans (bel10.mono belE.size)
      clear ownE icut icut2 belE bel9 bel10
      go_wp2_with fail
    rotate_left
    focus
      have belD := belC
      clear hp1 hk1 hv1 hn
      obtain ⟨wD, rfl⟩ : ∃ wD, wD = wC := ⟨_, rfl⟩
      go_wp2_with fail
    all_goals
      refine (word_any s _ (by omega)).mono ?_
      rintro E wF ⟨rfl, bel11⟩
      rw [HZ.out]
      have belF := belD.trans (bel11.mono belD.size)
      go_wp2_with fail
      refine (byts_any z _ (by omega)).mono ?_
      rintro E wG ⟨y, f, rfl, hY, bel12⟩
      rw [HZL.out] at hY
      obtain ⟨hy, rfl⟩ := Wm.bres_wd hY
      obtain rfl := (ba_ext hy).symm
      have belG := belF.trans (bel12.mono belF.size)
      clear hY hy bel11 bel12 belF belD
      go_wp2_with fail
      refine (byts_any t _ (by omega)).mono ?_
      rintro E wH ⟨z2, g, rfl, hG, bel13⟩
      have belH := belG.trans (bel13.mono belG.size)
      clear bel13 belG
      have hcon : decide (0 ≤ Lib.indexByte z.data.toList 32) = false := by rw [HZI.out]; rfl
      have HCON := hide hcon
      clear hcon
      go_wp2_with fail
      refine (Try.strings_Contains_one z 32 _).mono ?_
      rintro E wI ⟨rfl, rfl⟩
      rw [HCON.out]
      rcases hG with ⟨rfl, hwz⟩ | ⟨rfl, _, _⟩
      · have hz2 : z2.size ≤ 35184372088832 := by
          have := back_len hwz
          rw [← Lib.size_eq, ← Lib.size_eq] at this
          omega
        have hw2 : (⟨(Wm.wd z2.data.toList).toArray⟩ : ByteArray) = t := ba_ext (by simpa using hwz)
        have HW2 := hide hw2
        clear hwz hw2
        go_wp2_with fail
        refine (word_any z2 _ hz2).mono ?_
        rintro E wJ ⟨rfl, bel14⟩
        rw [HW2.out]
        go_wp2
        go_ret
        exact ⟨rfl, belH.trans (bel14.mono belH.size)⟩
      · go_wp2
        go_ret
        exact ⟨rfl, belH⟩

end Go.Proofs.Ytaejecompbmhcaa
