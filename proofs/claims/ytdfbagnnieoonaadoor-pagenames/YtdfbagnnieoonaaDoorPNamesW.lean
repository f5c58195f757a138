/- The walk of PageNames. -/
import Derived.Test.YtdfbagnnieoonaaDoorQn
namespace Go.Proofs.YtdfbagnnieoonaaDoor
open Go.RowKit
set_option linter.unusedVariables false

theorem ok_c : Pm.Ok ⟨3, 3, 0, 1, 0, 0⟩ := by unfold Pm.Ok Pm.Bnd Pm.Own; simp
theorem ok_d : Pm.Ok ⟨3, 3, 0, 2, 5, 9⟩ := by unfold Pm.Ok Pm.Bnd Pm.Own; simp
theorem not_e : ¬ Pm.Ok ⟨3, 2, 7, 0, 0, 0⟩ := by unfold Pm.Ok Pm.Bnd Pm.Own; simp
theorem dc_c : Pm.Dc [3, 3, 0, 1, 0, 0] ⟨3, 3, 0, 1, 0, 0⟩ 0 := .inl ⟨rfl, ok_c, by simp [Pm.enc, Pm.nums, Pm.encs, Vm.enc_lo]⟩
theorem dc_d : Pm.Dc [3, 3, 0, 2, 5, 9] ⟨3, 3, 0, 2, 5, 9⟩ 0 := .inl ⟨rfl, ok_d, by simp [Pm.enc, Pm.nums, Pm.encs, Vm.enc_lo]⟩
theorem dc_bad : Pm.Dc [3, 2, 7, 0, 0, 0] Pm.no 5 :=
  (Pm.dc_six (x := ⟨3, 2, 7, 0, 0, 0⟩) (by simp [Pm.nums]) (by simp [Pm.enc, Pm.nums, Pm.encs, Vm.enc_lo])).2 (.inl not_e)

theorem last_nil : LRes [] 1 ⟨1, 2, 0, 0, 0, 0⟩ 0 0 := by
  refine .inl ⟨rfl, rfl, [], by simp, by simp [Fm.cat], by simp [Fm.cat], rfl, fun y hy hp => ?_⟩
  have h1 := hp.length_le
  have h2 := Fm.frm_pos (Pm.enc y)
  simp at h1
  simp [h1] at h2

set_option maxRecDepth 100000 in
set_option maxHeartbeats 4000000 in
theorem pageNames_walk (w : World) (hm : Mst w) : Calls Tryd.prog 3 #[] w fun e w' => e = .returned (.bool true) ∧ Below w.heap.size w w' := by
  have HM := hide hm
  clear hm
  go_enter Tryd.func3, Tryd.ntmps3
  go_wp2_with fail
  refine (first_any 0 _).mono ?_
  rintro E w1 ⟨rfl, lw1⟩
  rw [show vp (fst 0) = .agg #[.int .i64 1, .int .u8 1, .int .i64 0, .int .u8 0, .int .i64 0, .int .i64 0] from rfl, show fse 0 = 0 from rfl]
  have Bw1 := lw1
  clear lw1
  obtain ⟨w2, hw2, zw2, lw2, pw2, ⟨cw20, cw21, cw22, cw23, cw24, cw25⟩, ⟨sw20, sw21, sw22, sw23, sw24, sw25, fw20, fw21, fw22, fw23, fw24, fw25⟩⟩ := newp w1 (⟨1, 1, 0, 0, 0, 0⟩ : Pm.Pg)
  have Pa : Hid (PgAt w2 w1.heap.size (⟨1, 1, 0, 0, 0, 0⟩ : Pm.Pg)) := pw2
  clear pw2
  have Bw2 := Bw1.trans (lw2.mono Bw1.size)
  clear Bw1
  clear lw2
  go_wp2_with fail
  refine (first_any 1 _).mono ?_
  rintro E w3 ⟨rfl, lw3⟩
  clear hw2 zw2 cw20 cw21 cw22 cw23 cw24 cw25 sw20 sw21 sw22 sw23 sw24 sw25 fw20 fw21 fw22 fw23 fw24 fw25
  rw [show vp (fst 1) = .agg #[.int .i64 1, .int .u8 2, .int .i64 0, .int .u8 0, .int .i64 0, .int .i64 0] from rfl, show fse 1 = 0 from rfl]
  replace Pa := hide (Pa.out.below lw3)
  have Bw3 := Bw2.trans (lw3.mono Bw2.size)
  clear Bw2
  clear lw3
  obtain ⟨w4, hw4, zw4, lw4, pw4, ⟨cw40, cw41, cw42, cw43, cw44, cw45⟩, ⟨sw40, sw41, sw42, sw43, sw44, sw45, fw40, fw41, fw42, fw43, fw44, fw45⟩⟩ := newp w3 (⟨1, 2, 0, 0, 0, 0⟩ : Pm.Pg)
  have Pb : Hid (PgAt w4 w3.heap.size (⟨1, 2, 0, 0, 0, 0⟩ : Pm.Pg)) := pw4
  clear pw4
  replace Pa := hide (Pa.out.below lw4)
  have Bw4 := Bw3.trans (lw4.mono Bw3.size)
  clear Bw3
  clear lw4
  go_wp2_with fail
  refine (first_any 2 _).mono ?_
  rintro E w5 ⟨rfl, lw5⟩
  clear hw4 zw4 cw40 cw41 cw42 cw43 cw44 cw45 sw40 sw41 sw42 sw43 sw44 sw45 fw40 fw41 fw42 fw43 fw44 fw45
  rw [show vp (fst 2) = .agg #[.int .i64 0, .int .u8 0, .int .i64 0, .int .u8 0, .int .i64 0, .int .i64 0] from rfl, show fse 2 = 2 from rfl]
  replace Pa := hide (Pa.out.below lw5)
  replace Pb := hide (Pb.out.below lw5)
  have Bw5 := Bw4.trans (lw5.mono Bw4.size)
  clear Bw4
  clear lw5
  obtain ⟨w6, hw6, zw6, lw6, pw6, ⟨cw60, cw61, cw62, cw63, cw64, cw65⟩, ⟨sw60, sw61, sw62, sw63, sw64, sw65, fw60, fw61, fw62, fw63, fw64, fw65⟩⟩ := newp w5 (⟨0, 0, 0, 0, 0, 0⟩ : Pm.Pg)
  have Pz : Hid (PgAt w6 w5.heap.size (⟨0, 0, 0, 0, 0, 0⟩ : Pm.Pg)) := pw6
  clear pw6
  replace Pa := hide (Pa.out.below lw6)
  replace Pb := hide (Pb.out.below lw6)
  have Bw6 := Bw5.trans (lw6.mono Bw5.size)
  clear Bw5
  clear lw6
  obtain ⟨q0, q1, q2, q3, q4, q5⟩ := Pa.out.six
  go_wp2_with fail
  refine (samePage_any (⟨1, 1, 0, 0, 0, 0⟩ : Pm.Pg) (⟨1, 1, 0, 0, 0, 0⟩ : Pm.Pg) _).mono ?_
  rintro E w7 ⟨rfl, lw7⟩
  rw [same_self]
  clear q0 q1 q2 q3 q4 q5
  clear hw6 zw6 cw60 cw61 cw62 cw63 cw64 cw65 sw60 sw61 sw62 sw63 sw64 sw65 fw60 fw61 fw62 fw63 fw64 fw65
  replace Pa := hide (Pa.out.below lw7)
  replace Pb := hide (Pb.out.below lw7)
  replace Pz := hide (Pz.out.below lw7)
  have Bw7 := Bw6.trans (lw7.mono Bw6.size)
  clear Bw6
  clear lw7
  obtain ⟨q0, q1, q2, q3, q4, q5⟩ := Pb.out.six
  go_wp2_with fail
  refine (samePage_any (⟨1, 2, 0, 0, 0, 0⟩ : Pm.Pg) (⟨1, 2, 0, 0, 0, 0⟩ : Pm.Pg) _).mono ?_
  rintro E w8 ⟨rfl, lw8⟩
  rw [same_self]
  clear q0 q1 q2 q3 q4 q5
  replace Pa := hide (Pa.out.below lw8)
  replace Pb := hide (Pb.out.below lw8)
  replace Pz := hide (Pz.out.below lw8)
  have Bw8 := Bw7.trans (lw8.mono Bw7.size)
  clear Bw7
  clear lw8
  obtain ⟨w9, hw9, zw9, lw9, ow9⟩ := own_step .u8 5 w8 #[.int .u8 3, .int .u8 2, .int .u8 7, .int .u8 0, .int .u8 0, .int .u8 0] 6 [3, 2, 7, 0, 0, 0] rfl rfl (by simp [maxLen]) (by decide)
  replace Pa := hide (Pa.out.below lw9)
  replace Pb := hide (Pb.out.below lw9)
  replace Pz := hide (Pz.out.below lw9)
  have Bw9 := Bw8.trans (lw9.mono Bw8.size)
  clear Bw8
  clear lw9
  have C := hide (decode_any _ [3, 2, 7, 0, 0, 0] w9 ow9.is (by simp) (HM.out.below Bw9))
  go_wp2_with fail
  refine C.out.mono ?_
  rintro E w10 ⟨y, e, rfl, D, fit, lw10⟩
  obtain ⟨hy, he⟩ := Pm.dc_one D.out dc_bad
  subst hy he
  rw [show vp Pm.no = .agg #[.int .i64 0, .int .u8 0, .int .i64 0, .int .u8 0, .int .i64 0, .int .i64 0] from rfl]
  clear C D fit hw9 zw9 ow9
  replace Pa := hide (Pa.out.below lw10)
  replace Pb := hide (Pb.out.below lw10)
  replace Pz := hide (Pz.out.below lw10)
  have Bw10 := Bw9.trans (lw10.mono Bw9.size)
  clear Bw9
  clear lw10
  obtain ⟨w11, hw11, zw11, lw11, ow11⟩ := own_step .u8 5 w10 #[.int .u8 3, .int .u8 3, .int .u8 0, .int .u8 1, .int .u8 0, .int .u8 0] 6 [3, 3, 0, 1, 0, 0] rfl rfl (by simp [maxLen]) (by decide)
  replace Pa := hide (Pa.out.below lw11)
  replace Pb := hide (Pb.out.below lw11)
  replace Pz := hide (Pz.out.below lw11)
  have Bw11 := Bw10.trans (lw11.mono Bw10.size)
  clear Bw10
  clear lw11
  have C := hide (decode_any _ [3, 3, 0, 1, 0, 0] w11 ow11.is (by simp) (HM.out.below Bw11))
  go_wp2_with fail
  refine C.out.mono ?_
  rintro E w12 ⟨y, e, rfl, D, fit, lw12⟩
  obtain ⟨hy, he⟩ := Pm.dc_one D.out dc_c
  subst hy he
  rw [show vp (⟨3, 3, 0, 1, 0, 0⟩ : Pm.Pg) = .agg #[.int .i64 3, .int .u8 3, .int .i64 0, .int .u8 1, .int .i64 0, .int .i64 0] from rfl]
  clear C D fit hw11 zw11 ow11
  replace Pa := hide (Pa.out.below lw12)
  replace Pb := hide (Pb.out.below lw12)
  replace Pz := hide (Pz.out.below lw12)
  have Bw12 := Bw11.trans (lw12.mono Bw11.size)
  clear Bw11
  clear lw12
  obtain ⟨w13, hw13, zw13, lw13, pw13, ⟨cw130, cw131, cw132, cw133, cw134, cw135⟩, ⟨sw130, sw131, sw132, sw133, sw134, sw135, fw130, fw131, fw132, fw133, fw134, fw135⟩⟩ := newp w12 (⟨3, 3, 0, 1, 0, 0⟩ : Pm.Pg)
  have Pc : Hid (PgAt w13 w12.heap.size (⟨3, 3, 0, 1, 0, 0⟩ : Pm.Pg)) := pw13
  clear pw13
  replace Pa := hide (Pa.out.below lw13)
  replace Pb := hide (Pb.out.below lw13)
  replace Pz := hide (Pz.out.below lw13)
  have Bw13 := Bw12.trans (lw13.mono Bw12.size)
  clear Bw12
  clear lw13
  obtain ⟨w14, hw14, zw14, lw14, ow14⟩ := own_step .u8 5 w13 #[.int .u8 3, .int .u8 3, .int .u8 0, .int .u8 2, .int .u8 5, .int .u8 9] 6 [3, 3, 0, 2, 5, 9] rfl rfl (by simp [maxLen]) (by decide)
  rw [zw13] at ow14
  replace Pa := hide (Pa.out.below lw14)
  replace Pb := hide (Pb.out.below lw14)
  replace Pz := hide (Pz.out.below lw14)
  replace Pc := hide (Pc.out.below lw14)
  have Bw14 := Bw13.trans (lw14.mono Bw13.size)
  clear Bw13
  clear lw14
  have C := hide (decode_any _ [3, 3, 0, 2, 5, 9] w14 ow14.is (by simp) (HM.out.below Bw14))
  go_wp2_with fail
  refine C.out.mono ?_
  rintro E w15 ⟨y, e, rfl, D, fit, lw15⟩
  clear hw13 zw13 cw130 cw131 cw132 cw133 cw134 cw135 sw130 sw131 sw132 sw133 sw134 sw135 fw130 fw131 fw132 fw133 fw134 fw135
  obtain ⟨hy, he⟩ := Pm.dc_one D.out dc_d
  subst hy he
  rw [show vp (⟨3, 3, 0, 2, 5, 9⟩ : Pm.Pg) = .agg #[.int .i64 3, .int .u8 3, .int .i64 0, .int .u8 2, .int .i64 5, .int .i64 9] from rfl]
  clear C D fit hw14 zw14 ow14
  replace Pa := hide (Pa.out.below lw15)
  replace Pb := hide (Pb.out.below lw15)
  replace Pz := hide (Pz.out.below lw15)
  replace Pc := hide (Pc.out.below lw15)
  have Bw15 := Bw14.trans (lw15.mono Bw14.size)
  clear Bw14
  clear lw15
  obtain ⟨w16, hw16, zw16, lw16, pw16, ⟨cw160, cw161, cw162, cw163, cw164, cw165⟩, ⟨sw160, sw161, sw162, sw163, sw164, sw165, fw160, fw161, fw162, fw163, fw164, fw165⟩⟩ := newp w15 (⟨3, 3, 0, 2, 5, 9⟩ : Pm.Pg)
  have Pd : Hid (PgAt w16 w15.heap.size (⟨3, 3, 0, 2, 5, 9⟩ : Pm.Pg)) := pw16
  clear pw16
  replace Pa := hide (Pa.out.below lw16)
  replace Pb := hide (Pb.out.below lw16)
  replace Pz := hide (Pz.out.below lw16)
  replace Pc := hide (Pc.out.below lw16)
  have Bw16 := Bw15.trans (lw16.mono Bw15.size)
  clear Bw15
  clear lw16
  obtain ⟨q0, q1, q2, q3, q4, q5⟩ := Pc.out.six
  go_wp2_with fail
  refine (samePage_any (⟨3, 3, 0, 1, 0, 0⟩ : Pm.Pg) (⟨3, 3, 0, 1, 0, 0⟩ : Pm.Pg) _).mono ?_
  rintro E w17 ⟨rfl, lw17⟩
  rw [same_self]
  clear q0 q1 q2 q3 q4 q5
  clear hw16 zw16 cw160 cw161 cw162 cw163 cw164 cw165 sw160 sw161 sw162 sw163 sw164 sw165 fw160 fw161 fw162 fw163 fw164 fw165
  replace Pa := hide (Pa.out.below lw17)
  replace Pb := hide (Pb.out.below lw17)
  replace Pz := hide (Pz.out.below lw17)
  replace Pc := hide (Pc.out.below lw17)
  replace Pd := hide (Pd.out.below lw17)
  have Bw17 := Bw16.trans (lw17.mono Bw16.size)
  clear Bw16
  clear lw17
  obtain ⟨q0, q1, q2, q3, q4, q5⟩ := Pd.out.six
  go_wp2_with fail
  refine (samePage_any (⟨3, 3, 0, 2, 5, 9⟩ : Pm.Pg) (⟨3, 3, 0, 2, 5, 9⟩ : Pm.Pg) _).mono ?_
  rintro E w18 ⟨rfl, lw18⟩
  rw [same_self]
  clear q0 q1 q2 q3 q4 q5
  replace Pa := hide (Pa.out.below lw18)
  replace Pb := hide (Pb.out.below lw18)
  replace Pz := hide (Pz.out.below lw18)
  replace Pc := hide (Pc.out.below lw18)
  replace Pd := hide (Pd.out.below lw18)
  have Bw18 := Bw17.trans (lw18.mono Bw17.size)
  clear Bw17
  clear lw18
  have C := hide (last_any (.slice none 0 0) [] 1 w18 (Is.nil _ _) (by simp) (HM.out.below Bw18))
  go_wp2_with fail
  refine C.out.mono ?_
  rintro E w19 ⟨y, n, e, rfl, D, fit, lw19⟩
  obtain ⟨hy, hn, he⟩ := lres_one D.out last_nil
  subst hy hn he
  rw [show vp (⟨1, 2, 0, 0, 0, 0⟩ : Pm.Pg) = .agg #[.int .i64 1, .int .u8 2, .int .i64 0, .int .u8 0, .int .i64 0, .int .i64 0] from rfl]
  clear C D fit
  replace Pa := hide (Pa.out.below lw19)
  replace Pb := hide (Pb.out.below lw19)
  replace Pz := hide (Pz.out.below lw19)
  replace Pc := hide (Pc.out.below lw19)
  replace Pd := hide (Pd.out.below lw19)
  have Bw19 := Bw18.trans (lw19.mono Bw18.size)
  clear Bw18
  clear lw19
  obtain ⟨w20, hw20, zw20, lw20, pw20, ⟨cw200, cw201, cw202, cw203, cw204, cw205⟩, ⟨sw200, sw201, sw202, sw203, sw204, sw205, fw200, fw201, fw202, fw203, fw204, fw205⟩⟩ := newp w19 (⟨1, 2, 0, 0, 0, 0⟩ : Pm.Pg)
  have Pp : Hid (PgAt w20 w19.heap.size (⟨1, 2, 0, 0, 0, 0⟩ : Pm.Pg)) := pw20
  clear pw20
  replace Pa := hide (Pa.out.below lw20)
  replace Pb := hide (Pb.out.below lw20)
  replace Pz := hide (Pz.out.below lw20)
  replace Pc := hide (Pc.out.below lw20)
  replace Pd := hide (Pd.out.below lw20)
  have Bw20 := Bw19.trans (lw20.mono Bw19.size)
  clear Bw19
  clear lw20
  have C := hide (lives_any w20 (HM.out.below Bw20))
  go_wp2_with fail
  refine C.out.mono ?_
  rintro E w21 ⟨rfl, lw21⟩
  clear C
  clear hw20 zw20 cw200 cw201 cw202 cw203 cw204 cw205 sw200 sw201 sw202 sw203 sw204 sw205 fw200 fw201 fw202 fw203 fw204 fw205
  replace Pa := hide (Pa.out.below lw21)
  replace Pb := hide (Pb.out.below lw21)
  replace Pz := hide (Pz.out.below lw21)
  replace Pc := hide (Pc.out.below lw21)
  replace Pd := hide (Pd.out.below lw21)
  replace Pp := hide (Pp.out.below lw21)
  have Bw21 := Bw20.trans (lw21.mono Bw20.size)
  clear Bw20
  clear lw21
  obtain ⟨q0, q1, q2, q3, q4, q5⟩ := Pp.out.six
  obtain ⟨r0, r1, r2, r3, r4, r5⟩ := Pb.out.six
  go_wp2_with fail
  refine (samePage_any (⟨1, 2, 0, 0, 0, 0⟩ : Pm.Pg) (⟨1, 2, 0, 0, 0, 0⟩ : Pm.Pg) _).mono ?_
  rintro E w22 ⟨rfl, lw22⟩
  rw [same_self]
  clear q0 q1 q2 q3 q4 q5 r0 r1 r2 r3 r4 r5
  replace Pa := hide (Pa.out.below lw22)
  replace Pb := hide (Pb.out.below lw22)
  replace Pz := hide (Pz.out.below lw22)
  replace Pc := hide (Pc.out.below lw22)
  replace Pd := hide (Pd.out.below lw22)
  replace Pp := hide (Pp.out.below lw22)
  have Bw22 := Bw21.trans (lw22.mono Bw21.size)
  clear Bw21
  clear lw22
  go_wp2
  go_ret
  exact ⟨rfl, Bw22⟩

end Go.Proofs.YtdfbagnnieoonaaDoor
