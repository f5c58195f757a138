/- Proved: a hello of a log, sent as bytes and read again, tells where that log parts from any first part of it, and from itself (ShipHello). For every log and numbers; no conditions of my own. -/
import Derived.Test.YtabfihicdphjeaaGV
import Derived.Test.YtabfihicdphjeaaGK
import Derived.Deep.CutRange
import Derived.Test.YtabfihicdphjeaaRows
import Derived.ProofKit
import Derived.OpenShut
import Derived.ShutString
import Derived.ChangeOld
import Derived.Below
import Derived.SizedLaws
import Derived.Test.YtabfihicdphjeaaGT
/- ShipHello: the walk. -/
namespace Go.Proofs.Ytabfihicdphjeaa
open Go.RowKit
set_option linter.unusedVariables false

set_option maxRecDepth 20000 in
set_option maxHeartbeats 16000000 in
theorem shipHello_walk (v : Value) (rs : List Cw) (t r : Int) (w : World) (h : IsC w v rs) (hf : FitC rs) (hl : rs.length * 40 ≤ 140737488351232) (ht : (Lit.int .i64 t).wf = true) (hr : (Lit.int .i64 r).wf = true) :
    Calls Try.prog 6 #[v, .int .i64 t, .int .i64 r] w fun E w' => E = .returned (.bool true) ∧ Below w.heap.size w w' := by
  have It : Hid (I64 t) := hide (by
    have := range_i64 (zs := [t]) (by simpa using ht) 0
    simpa [I64] using this)
  clear ht
  have Ir : Hid (I64 r) := hide (by
    have := range_i64 (zs := [r]) (by simpa using hr) 0
    simpa [I64] using this)
  clear hr
  obtain ⟨ao, cap, hvl, _, _⟩ := h.1.shape
  have HI := hide h
  have HF := hide hf
  rw [hvl] at HI
  subst hvl
  clear h hf
  go_enter Try.func6, Try.ntmps6
  go_wp2_with fail
  refine (lives17_any w).mono ?_
  rintro E w1 ⟨rfl, b1⟩
  have B1 := hide b1
  have SML := hide (small17_any _ rs w1 (HI.out.below b1) (by omega))
  have FOL := hide (cfol_any 0 0 _ rs w1 (HI.out.below b1) HF.out (by omega))
  unfold flv at FOL
  have HG := hide (Cm.fol_good (cvs rs) 0 0 0)
  have HZ := hide (Cm.fol_at (cvs rs) 0 0 0)
  obtain ⟨fl, hfl⟩ : ∃ f, Cm.fol 0 0 0 (cvs rs) = f := ⟨_, rfl⟩
  rw [hfl] at FOL HG HZ
  obtain ⟨fe, fp⟩ := fl
  simp only at FOL HG HZ
  clear b1 hfl
  go_wp2_with fail
  refine SML.out.mono ?_
  rintro E w2 ⟨⟨bs, rfl, hbs⟩, rfl⟩
  clear SML
  cases bs with
  | false =>
    go_wp2
    go_ret
    exact ⟨rfl, B1.out⟩
  | true =>
  obtain ⟨hs1, hs2⟩ := hbs rfl
  have HS2 := hide hs2
  clear hbs hs2
  go_wp2_with fail
  refine FOL.out.mono ?_
  rintro E w2 ⟨rfl, b2⟩
  have B2 := hide (B1.out.trans (b2.mono B1.out.size))
  have hnq := Try.neqF fe fp 0 0
  have hgd := Try.guardF
  clear b2 FOL
  by_cases hfe : fe = 0
  case neg =>
    have hb : (!((fe == 0) && (fp == 0))) = true := by simp [hfe]
    rw [hb] at hnq
    clear HG HZ
    go_wp2
    go_ret
    exact ⟨rfl, B2.out⟩
  have hfp : fp = 0 := HZ.out hfe
  have GD : Hid (Cm.Good 0 0 (cvs rs)) := hide (HG.out.1 hfe)
  have hb : (!((fe == 0) && (fp == 0))) = false := by simp [hfe, hfp]
  rw [hb] at hnq
  obtain ⟨ep, hep⟩ : ∃ ep, epo17 (cvs rs) = ep := ⟨_, rfl⟩
  have HEP := hide hep
  clear HG HZ hb hep
  go_upto_if 32 with fail
  go_cut [7] from 30 to 39 (fun vq wx => vq = .int .i64 ep ∧ w2 = wx)
  case first =>
    by_cases h0 : 0 < rs.length
    · obtain ⟨b, off, cap', hv, _, _, hlt, hcell⟩ := (HI.out.below B2.out).1.full h0
      simp only [Value.slice.injEq, true_and] at hv
      obtain ⟨c, hc⟩ : ∃ c, rs[rs.length - 1]? = some c := ⟨rs[rs.length - 1], by rw [List.getElem?_eq_getElem]⟩
      obtain ⟨d0, _, _⟩ := hcell _ c hc
      have hla := last_row hc (by omega)
      have hec : c.e = ep := by
        rw [← HEP.out, ← hla]
        unfold epo17
        rw [if_neg (by rw [cvs_n]; omega)]
      rw [hec] at d0
      obtain ⟨n, hn⟩ : ∃ n, rs.length = n + 1 := ⟨rs.length - 1, by omega⟩
      have hn1 : rs.length - 1 = n := by omega
      have hn2 : (rs.length : Int) - 1 = (n : Int) := by omega
      have hn3 : (n : Int) < rs.length := by omega
      have hn4 : (0 : Int) < rs.length := by omega
      have hn5 : (0 : Int) ≤ (n : Int) := by omega
      rw [hn1] at d0
      obtain ⟨rfl, rfl⟩ := hv
      clear hcell hc hla hec hn hn1
      go_wp2
      go_meet
      case rel => exact ⟨rfl, rfl⟩
    · have h0' : ¬ (0 : Int) < rs.length := by omega
      have hep1 : (1 : Int) = ep := by
        rw [← HEP.out]
        unfold epo17
        rw [if_pos (by rw [cvs_n]; omega)]
      go_wp2
      go_meet
      case rel => exact ⟨rfl, rfl⟩
  case rest =>
  obtain ⟨rfl, rfl⟩ := hcut
  have EPB := (epo_ok GD.out).2
  rw [HEP.out] at EPB
  have EP64 : Hid (In64 ep) := hide ⟨by omega, by omega⟩
  have hlen : (cvs rs).length = rs.length := cvs_n rs
  have HLN := hide hlen
  clear hlen hnq hfe hfp
  have PK := hide (pickx_any r 3 w2 (by decide) (by decide) Ir.out)
  have hpk := pk_lt r 3 (by decide)
  generalize pk r 3 = q at *
  go_wp2_with fail
  refine PK.out.mono ?_
  rintro E w3 ⟨rfl, rfl⟩
  obtain ⟨hh1, hh2, hh3⟩ := hel_is GD.out (r := 1 + q) (by omega) (by omega)
  rw [HEP.out] at hh1 hh2 hh3
  have X1 := hide (phello_any ep (1 + q) _ rs w2 (HI.out.below B2.out) HF.out (by omega) EP64.out (by omega) (by omega))
  obtain ⟨m1, hm1⟩ : ∃ m, Shp.hel ep (1 + q) (cvs rs) = m := ⟨_, rfl⟩
  rw [hh1, hm1] at X1
  rw [hm1] at hh2 hh3
  have OKM := hide hh3
  have MF : Hid (m1.n = rs.length ∧ m1.ss = Sm.told 0 (cvs rs)) := hide (by rw [hh2, HLN.out]; exact ⟨rfl, rfl⟩)
  have hq1 : IntKind.u8.wrap (1 + q) = 1 + q := by
    unfold IntKind.wrap
    simp [IntKind.bits, IntKind.signed]
    omega
  have hq2 : IntKind.i64.wrap (1 + q) = 1 + q := wrap64s _ (by omega) (by omega)
  clear PK hh1 hh2 hh3 hm1
  go_wp2_with fail
  refine X1.out.mono ?_
  intro E x1 hE
  obtain ⟨sa1, so1, ca1, co1, cs1, rfl, T1⟩ := hE.open
  obtain ⟨y1, hy1, b1, L1⟩ := blt_new T1
  have s1 : Below w2.heap.size w2 y1 := T1.bel.trans (b1.mono T1.bel.size)
  have D1 := hide (B2.out.trans (s1.mono B2.out.size))
  obtain ⟨p0, p1, p2, p3, p4, p5, p6, p7⟩ := L1.ei
  have XE := hide (mencode_any (mw17 m1 sa1 so1 ca1 co1 cs1) (Mm.enc m1) 0 y1 L1.own.is L1.fit (by rw [L1.m']; exact .inl ⟨rfl, OKM.out, rfl⟩))
  unfold mv mw17 at XE
  simp only at XE
  have L1 := hide L1
  clear hE T1 b1 s1 X1
  go_wp2_with fail
  refine XE.out.mono ?_
  rintro E x2 ⟨vb, rfl, o2, b2⟩
  have D2 := hide (D1.out.trans (b2.mono D1.out.size))
  have L1 := hide (L1.out.below b2)
  have XD := hide (mdecode_any vb (Mm.enc m1) x2 o2.is (Nat.le_trans (enc_len17 OKM.out) (by decide)) m1 0 (Mm.dc_enc OKM.out))
  obtain ⟨ba, bk, hvb, _, _⟩ := o2.is.shape
  rw [hvb] at XD
  rw [hvb]
  clear XE b2 o2 hvb hy1 p0 p1 p2 p3 p4 p5 p6 p7
  go_wp2_with fail
  refine XD.out.mono ?_
  intro E x3 hE
  obtain ⟨sa3, so3, ca3, co3, cs3, rfl, T3⟩ := hE.open
  obtain ⟨y3, hy3, b3, L3⟩ := blt_new T3
  have s3 : Below x2.heap.size x2 y3 := T3.bel.trans (b3.mono T3.bel.size)
  have D3 := hide (D2.out.trans (s3.mono D2.out.size))
  have L1 := hide (L1.out.below s3)
  obtain ⟨p0, p1, p2, p3, p4, p5, p6, p7⟩ := L3.ei
  obtain ⟨q0, q1, q2, q3, q4, q5, q6, q7⟩ := L1.out.ei
  have XS := hide (msame_any (mw17 m1 sa3 so3 ca3 co3 cs3) (mw17 m1 sa1 so1 ca1 co1 cs1) y3 L3.own.is L1.out.own.is L3.fit L1.out.fit)
  rw [L3.m', L1.out.m', smM_iff.2 rfl] at XS
  unfold mv mw17 at XS
  simp only at XS
  have L3 := hide L3
  clear hE T3 b3 s3 XD
  go_wp2_with fail
  refine XS.out.mono ?_
  rintro E x4 ⟨rfl, b4⟩
  have D4 := hide (D3.out.trans (b4.mono D3.out.size))
  have L1 := hide (L1.out.below b4)
  have L3 := hide (L3.out.below b4)
  have PT := hide (pickx_any t ((rs.length : Int) + 1) x4 (by omega) (by omega) It.out)
  have hpt := pk_lt t ((rs.length : Int) + 1) (by omega)
  obtain ⟨n, hn⟩ : ∃ n : Nat, pk t ((rs.length : Int) + 1) = (n : Int) := ⟨(pk t ((rs.length : Int) + 1)).toNat, by omega⟩
  rw [hn] at PT hpt
  have hnl : n ≤ rs.length := by omega
  have hw1 : IntKind.i64.wrap ((rs.length : Int) + 1) = (rs.length : Int) + 1 := wrap64s _ (by omega) (by omega)
  clear XS b4 hy3 p0 p1 p2 p3 p4 p5 p6 p7 q0 q1 q2 q3 q4 q5 q6 q7 hn
  go_wp2_with fail
  refine PT.out.mono ?_
  rintro E x5 ⟨rfl, rfl⟩
  obtain ⟨vs, hsl, isl⟩ := (HI.out.below D4.out).1.slice_h Try.elemC Try.sizeC n hnl
  have ISL : IsC x4 vs (rs.take n) := ⟨isl, fun c hc => (HI.out.below D4.out).2 c (List.mem_of_mem_take hc)⟩
  have hct : cvs (rs.take n) = (cvs rs).take n := by unfold cvs; rw [List.map_take]
  have XO := hide (of_any vs (rs.take n) x4 ISL (fun c hc => HF.out c (List.mem_of_mem_take hc)) (by rw [List.length_take]; omega))
  rw [hct, good_fol (Cm.good_take GD.out n), ofs_ok (by rw [good_fol (Cm.good_take GD.out n)])] at XO
  obtain ⟨va, vk, hvs, _, _⟩ := isl.shape
  rw [hvs] at XO hsl
  rw [List.length_take, Nat.min_eq_left hnl] at XO hsl
  unfold flv at XO
  simp only at XO
  have k0 : ¬ (n : Int) < 0 := by omega
  clear PT isl ISL hct hvs
  go_wp2_with fail
  refine XO.out.mono ?_
  rintro E x6 ⟨v6, rfl, o6, b6⟩
  have D6 := hide (D4.out.trans (b6.mono D4.out.size))
  have L1 := hide (L1.out.below b6)
  have L3 := hide (L3.out.below b6)
  obtain ⟨w7, hw7, hw7', sz7, b7, hF7, c0, c1⟩ := new_two x6 42 (.int .i64 0) (.int .i64 0) (.int .i64 0) (.int .i64 0)
  have t0 : w7.setCell ⟨x6.heap.size, 0, none⟩ (.int .i64 0) = w7 := set_same hF7 (j := 0) rfl
  have t1 : w7.setCell ⟨x6.heap.size, 1, none⟩ (.int .i64 0) = w7 := set_same hF7 (j := 1) rfl
  have u0 := blk_froz hF7 0
  have u1 := blk_froz hF7 1
  have D7 := hide (D6.out.trans (b7.mono D6.out.size))
  have L1 := hide (L1.out.below b7)
  have L3 := hide (L3.out.below b7)
  have O7 := ownS_below o6 b7
  obtain ⟨ka, kk, hv6, _, _⟩ := O7.row.shape
  have HF7 := hide hF7
  obtain ⟨fz, fx⟩ := fork_front GD.out n (by rw [HLN.out]; exact hnl)
  obtain ⟨gz, gx⟩ := fork_front GD.out rs.length (by rw [HLN.out]; omega)
  rw [List.take_of_length_le (by rw [HLN.out]; omega)] at gz gx
  rw [HLN.out] at fz fx gz gx
  obtain ⟨mf1, mf2⟩ := MF.out
  rw [← mf2] at fz fx gz gx
  have tl : (Sm.told 0 ((cvs rs).take n)).length ≤ 1000000 := by
    have := told_len ((cvs rs).take n) 0
    rw [List.length_take, HLN.out] at this
    omega
  have ml : m1.ss.length ≤ 1000000 := by
    rw [mf2]
    have := told_len (cvs rs) 0
    rw [HLN.out] at this
    omega
  have XF := hide (sfork_any (.slice sa3 m1.ss.length so3) v6 m1.ss (Sm.told 0 ((cvs rs).take n)) rs.length n w7 L3.out.own.is.s O7.row (by omega) (by omega))
  have XG : Hid (∀ W, Below w7.heap.size w7 W → Calls Try.prog 28 #[.slice sa3 m1.ss.length so3, .int .i64 (rs.length : Int), .slice sa1 m1.ss.length so1, .int .i64 (rs.length : Int)] W fun E w' => ∃ n, E = .returned (.tuple #[.int .i64 n, .int .i64 0]) ∧ n = (rs.length : Int) ∧ Below W.heap.size W w') := hide fun W hW => by
    have := sfork_any (.slice sa3 m1.ss.length so3) (.slice sa1 m1.ss.length so1) m1.ss m1.ss rs.length rs.length W (L3.out.below hW).own.is.s (L1.out.below hW).own.is.s (by omega) (by omega)
    rw [gz] at this
    refine this.mono ?_
    rintro E w' ⟨x, rfl, hx, hb⟩
    exact ⟨x, rfl, gx x hx, hb⟩
  rw [fz] at XF
  have FX := hide fx
  have CEL : Hid (∀ W, Below w7.heap.size w7 W → (W.cell? ⟨x3.heap.size, 4, none⟩ = some (.slice sa3 m1.ss.length so3) ∧ W.cell? ⟨x3.heap.size, 3, none⟩ = some (.int .i64 (rs.length : Int)) ∧ W.cell? ⟨x1.heap.size, 4, none⟩ = some (.slice sa1 m1.ss.length so1) ∧ W.cell? ⟨x1.heap.size, 3, none⟩ = some (.int .i64 (rs.length : Int))) ∧ W.cell? ⟨x6.heap.size, 0, none⟩ = some (.int .i64 0) ∧ W.cell? ⟨x6.heap.size, 1, none⟩ = some (.int .i64 0)) := hide fun W hW => by
    have k3 := (L3.out.below hW).blk
    have k1 := (L1.out.below hW).blk
    have kf := (hW.block x6.heap.size (blk_lt HF7.out)).trans HF7.out
    refine ⟨⟨blk_cell k3 4 rfl, ?_, blk_cell k1 4 rfl, ?_⟩, blk_cell kf 0 rfl, blk_cell kf 1 rfl⟩
    · rw [← mf1]; exact blk_cell k3 3 rfl
    · rw [← mf1]; exact blk_cell k1 3 rfl
  rw [hv6] at XF
  rw [hv6]
  obtain ⟨⟨p0, p1, p2, p3⟩, _⟩ := CEL.out w7 (Below.refl _ _)
  generalize (Sm.told 0 ((cvs rs).take n)).length = tn at *
  generalize m1.ss.length = tm at *
  clear XO o6 b6 b7 O7 hv6 fz fx gz gx mf1 mf2 MF L1 L3 D6 D4 hF7 HF7 hw7 sz7 c0 c1 tl ml hsl
  go_wp2_with fail
  refine XF.out.mono ?_
  rintro E x8 ⟨k8, rfl, hx8, b8⟩
  obtain rfl : k8 = (n : Int) := FX.out k8 hx8
  have D8 := hide (D7.out.trans (b8.mono D7.out.size))
  have X9 := hide (XG.out x8 b8)
  obtain ⟨⟨r0, r1, r2, r3⟩, _⟩ := CEL.out x8 b8
  have B8 := hide b8
  clear XF hx8 b8 FX p0 p1 p2 p3 t0 t1 u0 u1 hw7'
  go_wp2_with fail
  refine X9.out.mono ?_
  rintro E x9 ⟨k9, rfl, rfl, b9⟩
  have D9 := hide (D8.out.trans (b9.mono D8.out.size))
  obtain ⟨_, f0, f1⟩ := CEL.out x9 (B8.out.trans (b9.mono B8.out.size))
  have hql := Try.eqlF17 0 0 0 0
  clear X9 b9 r0 r1 r2 r3 XG CEL B8 D7 D8
  go_wp2
  go_ret
  exact ⟨rfl, D9.out⟩

end Go.Proofs.Ytabfihicdphjeaa

/- Proved: ShipHello -/
namespace Go.Proofs.Ytabfihicdphjeaa
open Go.ChangeShapes Go.WideShapes Go.ChangeAt Go.RowKit
open Go.ChangeMaps (open_string shut_string)
set_option linter.unusedVariables false

namespace shipHelloFrame
theorem own : ownKnob Try.prog.godebug = none := by kernel_rfl
theorem laidOut : laidOutB Try.prog = true := by kernel_rfl
theorem cells46 : Try.prog.cellsOf 46 = 3 := by kernel_rfl
theorem bytes46 : Try.prog.bytesOf 46 = 40 := by kernel_rfl
theorem cells62 : Try.prog.cellsOf 62 = 3 := by kernel_rfl
theorem bytes62 : Try.prog.bytesOf 62 = 40 := by kernel_rfl

set_option maxRecDepth 100000 in
theorem lifted (os : Os) (started : os.Started) (H : Type) (enc : TypeId × Value → H) :
    ReturnsInHanded {} Try.checked os 6 .any (Rows.shipHelloSpec.pre6 enc Try.prog Try.f6 Rows.shipHelloRow.domain false) (Rows.shipHelloSpec.post enc Try.prog Try.f6 false true false false) := by
  refine returnsInHanded_of_change_sized (C := Try.checked) own started (by kernel_rfl) Try.func6
    (ChangeSpec.witness6 (enc := enc) (C := Try.checked) false ⟨#[], #[.slice none 0 0, .int .i64 0, .int .i64 0], []⟩ 8 (by kernel_rfl) (by kernel_rfl) (by kernel_rfl) (by kernel_rfl)) ?_
  intro W base args ds gs before hval0 hW hcnd hsz0 _
  have hsz : (DataW.weightsEach Try.prog (Try.f6.params.toList ++ Rows.shipHelloSpec.plain.varTypes Try.prog) (ds ++ gs)).all (· ≤ reachBytes) = true := hsz0
  clear hsz0
  have hval : ∀ (j : Nat) t v, Try.f6.params[j]? = some t → args[j]? = some v → Value.okWide Try.prog W .any base t v := hval0
  have hW' := hW
  obtain ⟨p, q, hA0, hV, rfl, hfz, hnd⟩ := hW
  have hA : DataW.TrodAll enc Try.prog W 0 (fun _ => true) true Try.f6.params.toList args.toList ds p := hA0
  rw [Try.params6] at hA hval hsz
  obtain ⟨v0, vs0, d0, ds0, p0, q0, hargs, rfl, rfl, h0, r0⟩ := trodAll_cons hA
  obtain ⟨v1, vs1, d1, ds1, p1, q1, rfl, rfl, rfl, h1, r1⟩ := trodAll_cons r0
  obtain ⟨v2, vs2, d2, ds2, p2, q2, rfl, rfl, rfl, h2, r2⟩ := trodAll_cons r1
  obtain ⟨rfl, rfl, rfl⟩ := trodAll_nil r2
  obtain rfl : args = #[v0, v1, v2] := by cases args; simp_all
  obtain ⟨rfl, rfl⟩ := trodVars_none hV
  obtain ⟨a0, len0, cap0, rfl⟩ := okWide_slice Try.underlying24 (hval 0 24 v0 rfl rfl)
  have k0 := h0
  have lt0 : ∀ x ∈ p0, x.block < W.heap.size := by obtain ⟨m, hm⟩ := k0; exact DataW.trod_lt m _ _ _ hm
  obtain ⟨z0, w0, g0, b0⟩ : ∃ r, IsC W (.slice a0 len0 cap0) r ∧ FitC r ∧ r.length * 40 ≤ 140737488351232 := by
    obtain ⟨fuel, hf⟩ := h0
    have hf' : DataW.trod enc Try.prog W 0 (fun _ => true) true fuel 24 [.slice a0 len0 cap0] = some (d0, p0) := by simpa [Value.cells] using hf
    obtain ⟨r, hr, hd⟩ := open_coms Try.underlying24 Try.underlying46 (by kernel_rfl) cells46 Try.underlying3 Try.underlying3 Try.underlying44 Try.underlying62 (by kernel_rfl) cells62 Try.underlying4 Try.underlying9 Try.underlying9 hf'
    rcases hd with ⟨_, rfl⟩ | ⟨es, sp, hd, hln, hes⟩
    · exact ⟨[], hr, fun c hc => by simp at hc, by simp⟩
    · simp only at hd
      rw [hd] at hsz
      obtain ⟨h1, h2⟩ := sized_coms hsz (j := 0) (t := 24) (e := 46) rfl rfl hln hes Try.underlying24 Try.underlying46 bytes46 Try.underlying44 Try.underlying62 bytes62
      exact ⟨r, hr, h1, h2⟩
  obtain ⟨a1, rfl, rfl, rfl, w1⟩ := open_int Try.underlying3 (hval 1 3 v1 rfl rfl) h1
  obtain ⟨a2, rfl, rfl, rfl, w2⟩ := open_int Try.underlying3 (hval 2 3 v2 rfl rfl) h2
  clear hA0 hval0
  refine (shipHello_walk _ z0 a1 a2 W w0 g0 b0 w1 w2).mono fun e W' ⟨he, bel⟩ => ?_
  subst he
  exact ⟨_, rfl, _, _, _, [], _, [], hW', trodAll_mk1 (shut_bool Try.underlying4 _), (trodAll_cons_mk (Below.trod laidOut (by kernel_rfl) (of_decide_eq_true (by kernel_rfl)) k0 bel lt0) (trodAll_cons_mk (shut_int Try.underlying3 w1) (trodAll_cons_mk (shut_int Try.underlying3 w2) trodAll_mk0))), rfl, bel.frame _, fun h => by cases h⟩

theorem over : Rows.shipHelloRow.holds Try.pinned (OpenSpec.ofChange Rows.shipHelloSpec) :=
  OpenClaim.holds_of_wide 6 Try.f6 rfl rfl rfl rfl rfl rfl rfl ⟨rfl, rfl, rfl, rfl, rfl⟩ rfl rfl rfl rfl rfl (by kernel_rfl) Try.func6 (by kernel_rfl)
    (of_decide_eq_true (by kernel_rfl)) (by unfold Func.isWrapper; first | (rw [if_pos (by decide +kernel)]; kernel_rfl) | (rw [if_neg (by decide +kernel)]; exact ⟨rfl, rfl⟩))
    (fun os started H enc _ => lifted os started H enc)
end shipHelloFrame

/-- The statement. -/
theorem shipHello_holds : Rows.ShipHelloSaid := shipHelloFrame.over
#print axioms shipHello_holds
end Go.Proofs.Ytabfihicdphjeaa
