/- StartsGrow: the walk. -/
import Derived.Test.YtklpbcdkgjoheaaSp
import Derived.Test.YtklpbcdkgjoheaaPick
namespace Go.Proofs.Ytklpbcdkgjoheaa
open Go.RowKit
set_option linter.unusedVariables false

set_option maxRecDepth 100000 in
set_option maxHeartbeats 8000000 in
theorem startsGrow_walk (vs : Value) (bs : List Bool) (tz : Int) (w : World) (h : RowG bolc w vs bs) (hl : bs.length * 1 ≤ 140737488351232) (hto : (Lit.int .i64 tz).wf = true) :
    Calls Try.prog 7 #[vs, .int .i64 tz] w fun e w' => e = .returned (.bool true) ∧ Below w.heap.size w w' := by
  obtain ⟨aS, cS, hvs, hcs, _⟩ := h.shape
  have H := hide h
  have HI := hide (i64_of hto)
  rw [hvs] at H
  subst hvs
  clear h hto
  go_enter Try.func7, Try.ntmps7
  go_wp2_with fail
  refine (lives_any w).mono ?_
  rintro E w1 ⟨rfl, bel1⟩
  by_cases hbig : 40 < bs.length
  · have hbig' : (40 : Int) < (bs.length : Int) := by omega
    go_wp2
    go_ret
    exact ⟨rfl, bel1⟩
  have hbig' : ¬ (40 : Int) < (bs.length : Int) := by omega
  have H1 := hide (H.out.below bel1)
  have HB : Hid (bs.length ≤ 40) := hide (by omega)
  generalize hn : bs.length = n at *
  have HN := hide hn
  clear hn
  go_wp2_with fail
  refine (log_any (.slice none 0 0) [] 1 _ bs w1 (IsC.nil _) (fun c hc => by simp at hc) (by decide) H1.out (by rw [HN.out]; exact HB.out) (by decide) (by decide)).mono ?_
  rintro E w2 ⟨v5, r, rfl, isr, fitr, er, bel2⟩
  have hg : Cm.Good 0 0 (cvs r) := by
    rw [er]
    simp only [cvs, List.map_nil, List.nil_append, List.length_nil]
    exact lg_good bs 1 0 0 (by decide) (by decide) (by rw [HN.out]; have := HB.out; omega) (by rw [HN.out]; have := HB.out; omega)
  have hrl : r.length = n := by
    have := congrArg List.length er
    rw [cvs_lenk, List.length_append, lg_len, cvs_lenk, List.length_nil, HN.out] at this
    omega
  have HG := hide hg
  have bel02 : Below w.heap.size w w2 := bel1.trans (bel2.mono bel1.size)
  obtain ⟨ar, cr, hv5, hcr, _⟩ := isr.1.shape
  subst hv5
  have HIS := hide isr
  have HFT := hide fitr
  have s02 := bel02.size
  rw [hrl] at HIS
  have HR := hide hrl
  have hnb := HB.out
  rw [hrl]
  clear hg isr fitr er hrl bel1 bel2 H H1
  go_wp2
  go_loopw [6, 7] (fun sv iv wr => ∃ k : Nat, k ≤ n ∧ iv = .int .i64 k ∧ OwnS w2.heap.size wr sv (Sm.told 0 (cvs (r.take k))) ∧ Below w2.heap.size w2 wr) (fun _ iv _ => n - (intOf iv).toNat)
  case atStart => exact ⟨0, by omega, rfl, OwnG.nil _ _ _ _ _, Below.refl _ _⟩
  case round =>
    obtain ⟨k, hk, rfl, own, bel⟩ := hrel
    have sz := bel.size
    by_cases hlt : k < n
    · obtain ⟨b1, o1, cp, hv, _, _, hB, hcell⟩ := HIS.out.1.full (by rw [HR.out]; omega)
      have har : ar = some ⟨b1, o1, none⟩ := by simp at hv; exact hv.1
      subst har
      obtain ⟨c, hc⟩ : ∃ c, r[k]? = some c := at_of (by rw [HR.out]; exact hlt)
      obtain ⟨e0, e1, e2⟩ := hcell k c hc
      have d0 := (bel.cell (p := ⟨b1, o1 + k * 3, none⟩) hB).trans e0
      have d1 := (bel.cell (p := ⟨b1, o1 + k * 3 + 1, none⟩) hB).trans e1
      have d2 := (bel.cell (p := ⟨b1, o1 + k * 3 + 2, none⟩) hB).trans e2
      have hmem := List.mem_of_getElem? hc
      obtain ⟨i1, i2, i3⟩ := HIS.out.2 c hmem
      have i4 := i1.below bel
      obtain ⟨hfc, hlc⟩ := HFT.out c hmem
      obtain ⟨ac, cc, hcv, _, _⟩ := i4.shape
      obtain ⟨g1, g2⟩ := grow_round HG.out hc
      have hlt' : (k : Int) < n := by omega
      have hln : (Sm.told 0 (cvs (r.take k))).length ≤ k := Nat.le_trans (told_len _ _) (by unfold cvs; rw [List.length_map, List.length_take]; omega)
      have X := grown_any _ (Sm.told 0 (cvs (r.take k))) k c.e c.n c.v c.l wr own.row (by omega) i4 hfc hlc i2 i3
      rw [g1, g2] at X
      unfold cmv at X
      rw [hcv] at X d2
      have XX := hide X
      clear X g1 g2 hcv i1 i2 i3 i4 hfc hlc hmem hln hc e0 e1 e2 hv hcell own
      go_wp2_with fail
      refine XX.out.mono ?_
      rintro E w3 ⟨v3, rfl, own3, bel3⟩
      have own4 := ownS_rebase (base' := w2.heap.size) own3 (by omega)
      have bel4 := bel.trans (bel3.mono (by omega))
      clear XX own3 bel bel3 d0 d1 d2
      go_wp2
      go_roundw
      case rel => exact ⟨k + 1, by omega, by go_num, own4, bel4⟩
      case measure => simp [intOf]; omega
    · have hlt' : ¬ (k : Int) < n := by omega
      obtain rfl : k = n := by omega
      have hrk : r.take k = r := List.take_of_length_le (by rw [HR.out]; omega)
      rw [hrk] at own
      have hln : (Sm.told 0 (cvs r)).length ≤ k := Nat.le_trans (told_len _ _) (by rw [cvs_lenk, HR.out]; omega)
      have HLN := hide hln
      have ISr := hide (HIS.out.below bel)
      have RS := hide own.row
      have belw : Below w.heap.size w wr := bel02.trans (bel.mono (by omega))
      obtain ⟨we, hwe⟩ : ∃ x, x = wr := ⟨_, rfl⟩
      rw [← hwe] at ISr RS belw ⊢
      clear own bel hrk hlt hlt' hln hwe
      go_wp2_with fail
      refine (of_good _ r we ISr.out HFT.out (by rw [HR.out]; omega) HG.out).mono ?_
      rintro E w3 ⟨v10, fe, fp, rfl, HF, own10, bel3⟩
      obtain ⟨w4, hw4, hw4', sz4, bel4, hF4, q0, q1⟩ := new_two w3 44 (.int .i64 0) (.int .i64 0) (.int .i64 fe) (.int .i64 fp)
      have IS4 := hide (((ISr.out.below bel3)).below bel4)
      have RS4 := hide ((RS.out.below bel3).below bel4)
      have R10 := hide (own10.row.below bel4)
      have s3 := bel3.size
      have bel34 : Below we.heap.size we w4 := bel3.trans (bel4.mono (by omega))
      have belw4 : Below w.heap.size w w4 := belw.trans (bel34.mono belw.size)
      have HF4 := hide hF4
      obtain ⟨pl, pu⟩ := pk_lt tz ((k : Int) + 1) (by omega)
      obtain ⟨p, hp⟩ : ∃ p : Nat, pk tz ((k : Int) + 1) = p := ⟨(pk tz ((k : Int) + 1)).toNat, by omega⟩
      have PK := pickx_any tz ((k : Int) + 1) w4 (by omega) (by omega) HI.out
      rw [hp] at PK pl pu
      have PKK := hide PK
      have hpk : p ≤ k := by omega
      obtain ⟨t1, t2, t3⟩ := at_in HG.out (p := p) (by rw [HR.out]; exact hpk)
      rw [HR.out] at t1 t2 t3
      have T := trim_any _ (Sm.told 0 (cvs r)) k p w4 RS4.out (by have := HLN.out; omega)
      rw [t1, t2] at T
      have TT := hide T
      clear own10 bel3 bel4 hF4 PK T hp pl pu bel34 ISr RS q0 q1
      go_wp2_with fail
      refine PKK.out.mono ?_
      rintro E w5 ⟨rfl, rfl⟩
      go_wp2_with fail
      refine TT.out.mono ?_
      rintro E w6 ⟨v13, rfl, own13, bel6⟩
      have IS6 := IS4.out.below bel6
      obtain ⟨vq, hsl, rowq⟩ := IS6.1.slice_h Try.elemC Try.sizeC p (by rw [HR.out]; exact hpk)
      have isq : IsC w6 vq (r.take p) := ⟨rowq, IS6.2.take p⟩
      have OFQ := hide (of_good vq (r.take p) w6 isq (fun c hc => HFT.out c (List.mem_of_mem_take hc)) (by rw [List.length_take, HR.out]; omega) (good_of HG.out p))
      have hlq : (Sm.told 0 (cvs (r.take p))).length ≤ 140737488355328 := Nat.le_trans (told_len _ _) (by rw [cvs_lenk, List.length_take, HR.out]; omega)
      have HQ := hide hlq
      have I6 := hide IS6
      have R6 := hide (RS4.out.below bel6)
      have R106 := hide (R10.out.below bel6)
      have R13 := hide own13.row
      have hB6 := (bel6.block w3.heap.size (by omega)).trans HF4.out
      have HB6 := hide hB6
      have belw6 := belw4.trans (bel6.mono belw4.size)
      clear rowq isq IS6 own13 hlq hB6 bel6 belw4 IS4 RS4 R10 HF4 PKK TT
      go_wp2_with fail
      refine OFQ.out.mono ?_
      rintro E w7 ⟨v15, ge, gp, rfl, HF2, own15, bel7⟩
      obtain ⟨w8, hw8, hw8', sz8, bel8, hF8, x0, x1⟩ := new_two w7 44 (.int .i64 0) (.int .i64 0) (.int .i64 ge) (.int .i64 gp)
      have s7 := bel7.size
      have bel68 : Below w6.heap.size w6 w8 := bel7.trans (bel8.mono (by omega))
      have I8 := hide (I6.out.below bel68)
      have R8 := hide (R6.out.below bel68)
      have R108 := hide (R106.out.below bel68)
      have R138 := hide (R13.out.below bel68)
      have R158 := hide (own15.row.below bel8)
      have szB := blk_lt HB6.out
      have hB8 := (bel68.block w3.heap.size szB).trans HB6.out
      have y0 := blk_cell hB8 0 rfl
      have y1 := blk_cell hB8 1 rfl
      have belw8 := belw6.trans (bel68.mono belw6.size)
      have n1 := Try.neqF fe fp 0 0
      have n2 := Try.neqF ge gp 0 0
      have hgd := Try.guardF
      rw [show (!((fe == 0) && (fp == 0))) = false by rw [HF.out.1, HF.out.2]; rfl] at n1
      rw [show (!((ge == 0) && (gp == 0))) = false by rw [HF2.out.1, HF2.out.2]; rfl] at n2
      clear OFQ own15 bel7 bel8 hF8 bel68 I6 R6 R106 R13 HB6 hB8 HF HF2 s7 belw6
      have OKA := hide (ok_all HG.out)
      rw [HR.out] at OKA
      have HLN2 : Hid ((Sm.told 0 (cvs r)).length ≤ 140737488355328) := hide (by have := HLN.out; omega)
      go_wp2_with fail
      refine (sameS_yes _ v10 (Sm.told 0 (cvs r)) w8 R8.out R108.out HLN2.out).mono ?_
      rintro E w9 ⟨rfl, m9, rfl⟩
      go_wp2_with fail
      refine (sameS_yes v13 v15 (Sm.told 0 (cvs (r.take p))) _ (rowS_drewN R138.out m9) (rowS_drewN R158.out m9) HQ.out).mono ?_
      rintro E w10 ⟨rfl, m10, rfl⟩
      have bel10 : Below w8.heap.size w8 ((w8.drewN m9).drewN m10) := below_drewN (below_drewN (Below.refl _ _) m9) m10
      generalize (w8.drewN m9).drewN m10 = w11 at *
      have R11 := hide (R8.out.below bel10)
      have I11 := hide (I8.out.below bel10)
      have belw11 := belw8.trans (bel10.mono belw8.size)
      clear R8 R108 R138 R158 I8 bel10 belw8 hw8 hw8' y0 y1 x0 x1
      go_wp2_with fail
      refine (scheck_any _ (Sm.told 0 (cvs r)) k w11 R11.out HLN2.out).mono ?_
      rintro E w12 ⟨rfl, bel12⟩
      rw [Sm.chk_ok OKA.out]
      have R12 := hide (R11.out.below bel12)
      have I12 := hide (I11.out.below bel12)
      have belw12 := belw11.trans (bel12.mono belw11.size)
      clear R11 I11 bel12 belw11
      go_wp2_with fail
      refine (at_any _ (Sm.told 0 (cvs r)) k p w12 R12.out HLN2.out).mono ?_
      rintro E w13 ⟨rfl, bel13⟩
      rw [t1, t3]
      have I13 := hide (I12.out.below bel13)
      have belw13 := belw12.trans (bel13.mono belw12.size)
      clear R12 I12 bel13 belw12 t1 t2 t3
      rcases Nat.eq_zero_or_pos p with hp0 | hp0
      · subst hp0
        rw [at_zero HG.out]
        go_wp2
        go_ret
        exact ⟨rfl, belw13⟩
      · obtain ⟨q, rfl⟩ : ∃ q, p = q + 1 := ⟨p - 1, by omega⟩
        obtain ⟨c, hc⟩ : ∃ c, r[q]? = some c := at_of (by rw [HR.out]; omega)
        rw [show (((q + 1 : Nat) : Int)) = (q : Int) + 1 by omega, at_more HG.out hc]
        obtain ⟨b1, o1, cp, hv, _, _, hB, hcell⟩ := I13.out.1.full (by rw [HR.out]; omega)
        have har : ar = some ⟨b1, o1, none⟩ := by simp at hv; exact hv.1
        subst har
        obtain ⟨e0, e1, e2⟩ := hcell q c hc
        have z0 : ((q : Int) + 1 == 0) = false := by simp; omega
        have z1 : (0 : Int) < (q : Int) + 1 := by omega
        have z2 : (q : Int) + 1 - 1 = q := by omega
        have z3 : (q : Int) < k := by omega
        clear hv hcell hc e1 e2
        go_wp2
        go_ret
        exact ⟨rfl, belw13⟩

end Go.Proofs.Ytklpbcdkgjoheaa
