/- The walk of BatchBack. -/
import Derived.Test.YtfgbdcncbhilfaaBl
import Derived.Test.YtfgbdcncbhilfaaCutb
import Derived.Test.YtfgbdcncbhilfaaOpb
namespace Go.Proofs.Ytfgbdcncbhilfaa
open Go.RowKit
set_option linter.unusedVariables false

theorem sum_take {l : List Bm.Ov} {k : Nat} {o : Bm.Ov} (ho : l[k]? = some o) : Bm.sum (l.take (k + 1)) = Bm.sum (l.take k) + (Om.opEnc o.p o.k.data.toList o.v.data.toList).length := by
  rw [lst_take ho, Bm.sum_snoc]
  rfl

theorem sum_small {l : List Bm.Ov} (hc : Bm.chkL l = 0) (k : Nat) : Bm.sum (l.take k) ≤ 408 := by
  obtain ⟨h1, h2, h3⟩ := Bm.chkL_zero hc
  have := Bm.sum_le (l := l.take k) fun o ho => h3 o (List.mem_of_mem_take ho)
  have : (l.take k).length ≤ 8 := by rw [List.length_take]; omega
  omega

set_option maxHeartbeats 1000000 in
theorem batchBack_walk (vl : Value) (l : List Bm.Ov) (vb : Value) (bs : List Int) (w : World) (hl : IsO w vl l) (hfl : FitO l) (hll : l.length * 40 ≤ 140737488351232) (hb : Is .u8 w vb bs) (hbl : bs.length * 1 ≤ 140737488351232) :
    Calls Try.prog 7 #[vl, vb] w fun e w' => e = .returned (.bool true) ∧ Below w.heap.size w w' := by
  obtain ⟨ao, cp, hvl, _, _⟩ := hl.shape
  subst hvl
  go_enter Try.func7, Try.ntmps7
  go_wp2_with fail
  refine (lives_any _).mono ?_
  rintro E w1 ⟨rfl, bel1⟩
  have sz1 := bel1.size
  by_cases h20 : 20 < l.length
  · have h20' : (20 : Int) < l.length := by omega
    go_wp2
    go_ret
    exact ⟨rfl, bel1⟩
  have h20' : ¬ (20 : Int) < l.length := by omega
  have hl1 := hl.below bel1
  go_wp2_with fail
  refine (bapp_any _ [] _ l _ (Is.nil _ _) (by simp) hl1 hfl (by omega)).mono ?_
  rintro E w2 ⟨va, rfl, owa, bel2⟩
  have sz2 := bel2.size
  have bel02 := bel1.trans (bel2.mono sz1)
  clear bel1 bel2 hl1
  by_cases hcl : Bm.chkL l = 0
  · rw [hcl]
    rw [Bm.appB_ok hcl, List.nil_append] at owa
    have hal := Bm.encB_small hcl
    have hle := Bm.encB_le hcl
    have HL := hide hcl
    have HS := hide (sum_small hcl)
    have h8 := (Bm.chkL_zero hcl).2.1
    have h1 := (Bm.chkL_zero hcl).1
    clear hcl
    obtain ⟨b1, o1, c1, hvx, _, _, hB, hcell⟩ := hl.full (by omega)
    simp only [Value.slice.injEq, true_and] at hvx
    obtain ⟨rfl, rfl⟩ := hvx
    have HCELL := hide hcell
    clear hcell
    have hlena := owa.is.len_run Try.elemP
    go_wp2_with fail
    refine (copy_any va _ _ owa.is (by omega)).mono ?_
    rintro E w3 ⟨vc, rfl, owc, bel3⟩
    have sz3 := bel3.size
    have bel03 := bel02.trans (bel3.mono (by omega))
    have hb3 := hb.below bel03
    clear bel3 bel02 owa
    go_wp2_with (at_builtin; refine wpList_append_is rfl (.tmp 32) (.tmp 33) 23 rfl .u8 5 w2.heap.size 1 Try.underlying23 Try.info5 (by decide) _ _ rfl owc _ bs rfl hb3 (by omega) (by omega) ?_)
    intro vd w4 owd bel4 _
    have sz4 := bel4.size
    have bel04 := bel03.trans (bel4.mono (by omega))
    clear bel4 bel03 owc hb3
    go_wp2_with fail
    refine (bread_any vd _ _ owd.is (by rw [List.length_append]; omega)).mono ?_
    rintro E w5 ⟨vx, x, n, e, rfl, owx, hR, bel5⟩
    obtain ⟨rfl, rfl, rfl⟩ := Bm.bres_good HL.out (List.prefix_append _ _) hR
    clear hR
    have sz5 := bel5.size
    have bel05 := bel04.trans (bel5.mono (by omega))
    have hl5 := hl.below bel05
    clear bel5 bel04 owd
    go_wp2_with fail
    refine (sameO_any _ _ x x _ hl5 owx.is (by omega) (by omega)).mono ?_
    rintro E w6 ⟨rfl, bel6⟩
    rw [Bm.sameL_self]
    have sz6 := bel6.size
    have bel06 := bel05.trans (bel6.mono (by omega))
    clear bel6 bel05 hl5 owx
    go_wp2
    go_loopw [10, 11] (fun sv iv wr => ∃ k : Nat, k ≤ x.length ∧ iv = .int .i64 k ∧ sv = .int .i64 ((9 + Bm.sum (x.take k) : Nat) : Int) ∧ Below w.heap.size w wr) (fun _ iv _ => x.length - (intOf iv).toNat)
    case atStart => exact ⟨0, by omega, rfl, rfl, bel06⟩
    case round =>
      obtain ⟨k, hk, rfl, rfl, bel⟩ := hrel
      by_cases hlt : k < x.length
      · have hlt' : (k : Int) < x.length := by omega
        obtain ⟨o, ho⟩ : ∃ o, x[k]? = some o := ⟨x[k], by rw [List.getElem?_eq_getElem]⟩
        obtain ⟨e0, e1, e2⟩ := HCELL.out k o ho
        have d0 := (bel.cell (p := ⟨b1, o1 + k * 3, none⟩) hB).trans e0
        have d1 := (bel.cell (p := ⟨b1, o1 + k * 3 + 1, none⟩) hB).trans e1
        have d2 := (bel.cell (p := ⟨b1, o1 + k * 3 + 2, none⟩) hB).trans e2
        obtain ⟨hok, hov⟩ := hfl o (List.mem_of_getElem? ho)
        have hst := sum_take ho
        have hs1 := HS.out (k + 1)
        rw [hst] at hs1
        have hoc := (Bm.chkL_zero HL.out).2.2 o (List.mem_of_getElem? ho)
        have HO := hide hoc
        have HST := hide hst
        clear ho hst hoc e0 e1 e2
        go_wp2_with fail
        refine (oapp_any _ [] o.p o.k o.v _ (Is.nil _ _) (by simp) hok hov).mono ?_
        rintro E wq ⟨vo, rfl, owo, belq⟩
        have hapd : Om.appd [] o.p o.k.data.toList o.v.data.toList = Om.opEnc o.p o.k.data.toList o.v.data.toList := by rw [Om.appd_ok (show Om.chk o.p o.k.data.toList o.v.data.toList = 0 from HO.out), List.nil_append]
        rw [hapd] at owo
        have hleno := owo.is.len_run Try.elemP
        have belR := bel.trans (belq.mono bel.size)
        clear hapd owo belq bel
        go_wp2
        go_roundw
        case rel => exact ⟨k + 1, by omega, by go_num, congrArg (Value.int .i64) (by have := HST.out; omega), belR⟩
        case measure => simp [intOf]; omega
      · have hlt' : ¬ (k : Int) < x.length := by omega
        rw [List.take_of_length_le (by omega)]
        have hgt : ¬ ((9 + Bm.sum x : Nat) : Int) < ((Bm.encB x).length : Int) := by omega
        have sz := bel.size
        have hbX := hb.below bel
        go_wp2_with fail
        refine (bread_any vb bs _ hbX (by omega)).mono ?_
        rintro E wA ⟨vx, x, n, e, rfl, owx, hR, belA⟩
        have szA := belA.size
        have bel0A := bel.trans (belA.mono (by omega))
        have hbA := hbX.below belA
        clear bel belA hbX
        rcases hR with ⟨rfl, hcx, hp, rfl⟩ | ⟨rfl, rfl, rfl, _⟩
        · have hpl := hp.length_le
          have HX := hide hcx
          have HP := hide hp
          have hxs := Bm.encB_small hcx
          have hx8 := (Bm.chkL_zero hcx).2.1
          have hfx := (small_of hcx).fit
          clear hcx hp
          go_wp2_with fail
          refine (bapp_any _ [] _ x _ (Is.nil _ _) (by simp) owx.is hfx (by omega)).mono ?_
          rintro E wB ⟨vc, rfl, owc, belB⟩
          rw [HX.out]
          rw [Bm.appB_ok HX.out, List.nil_append] at owc
          have hbB := hbA.below belB
          have bel0B := bel0A.trans (belB.mono (by omega))
          have szB := bel0B.size
          clear belB bel0A hbA owx
          obtain ⟨vs, hsl, isl⟩ := hbB.slice_h Try.elemP Try.sizeP (Bm.encB x).length (by omega)
          have htk : bs.take (Bm.encB x).length = Bm.encB x := (List.prefix_iff_eq_take.1 HP.out).symm
          rw [htk] at isl
          have hlenb := hbB.len_run Try.elemP
          have hle : ((Bm.encB x).length : Int) ≤ (bs.length : Int) := by omega
          clear htk
          go_wp2_with fail
          refine (same_yes _ _ _ _ _ owc.is isl (by omega) rfl).mono ?_
          rintro E wC ⟨rfl, belC⟩
          have bel0C := bel0B.trans (belC.mono (by omega))
          clear belC isl hsl owc hbB
          go_wp2
          go_ret
          exact ⟨rfl, bel0C⟩
        · obtain ⟨az, cz, rfl⟩ := owx.is.bare
          clear owx
          go_wp2
          go_ret
          exact ⟨rfl, bel0A⟩
  · obtain ⟨c, hcc⟩ : ∃ c, Bm.chkL l = c := ⟨_, rfl⟩
    have hcb : (c == 0) = false := by rw [← hcc]; simpa using hcl
    rw [hcc]
    clear hcl hcc
    have bel := bel02
    clear bel02
    have sz := bel.size
    have hbX := hb.below bel
    go_wp2_with fail
    refine (bread_any vb bs _ hbX (by omega)).mono ?_
    rintro E wA ⟨vx, x, n, e, rfl, owx, hR, belA⟩
    have szA := belA.size
    have bel0A := bel.trans (belA.mono (by omega))
    have hbA := hbX.below belA
    clear bel belA hbX
    rcases hR with ⟨rfl, hcx, hp, rfl⟩ | ⟨rfl, rfl, rfl, _⟩
    · have hpl := hp.length_le
      have HX := hide hcx
      have HP := hide hp
      have hxs := Bm.encB_small hcx
      have hx8 := (Bm.chkL_zero hcx).2.1
      have hfx := (small_of hcx).fit
      clear hcx hp
      go_wp2_with fail
      refine (bapp_any _ [] _ x _ (Is.nil _ _) (by simp) owx.is hfx (by omega)).mono ?_
      rintro E wB ⟨vc, rfl, owc, belB⟩
      rw [HX.out]
      rw [Bm.appB_ok HX.out, List.nil_append] at owc
      have hbB := hbA.below belB
      have bel0B := bel0A.trans (belB.mono (by omega))
      have szB := bel0B.size
      clear belB bel0A hbA owx
      obtain ⟨vs, hsl, isl⟩ := hbB.slice_h Try.elemP Try.sizeP (Bm.encB x).length (by omega)
      have htk : bs.take (Bm.encB x).length = Bm.encB x := (List.prefix_iff_eq_take.1 HP.out).symm
      rw [htk] at isl
      have hlenb := hbB.len_run Try.elemP
      have hle : ((Bm.encB x).length : Int) ≤ (bs.length : Int) := by omega
      clear htk
      go_wp2_with fail
      refine (same_yes _ _ _ _ _ owc.is isl (by omega) rfl).mono ?_
      rintro E wC ⟨rfl, belC⟩
      have bel0C := bel0B.trans (belC.mono (by omega))
      clear belC isl hsl owc hbB
      go_wp2
      go_ret
      exact ⟨rfl, bel0C⟩
    · obtain ⟨az, cz, rfl⟩ := owx.is.bare
      clear owx
      go_wp2
      go_ret
      exact ⟨rfl, bel0A⟩

end Go.Proofs.Ytfgbdcncbhilfaa
