/- Proved: ships that are sent one behind the other bring the whole log across (ShipAll). For every log and number; no conditions of my own. -/
import Derived.Test.YtabfihicdphjeaaGV
import Derived.Test.YtabfihicdphjeaaGW
import Derived.Test.YtabfihicdphjeaaGK
import Derived.Deep.CutRange
import Derived.Test.YtabfihicdphjeaaRows
import Derived.ProofKit
import Derived.OpenShut
import Derived.ShutString
import Derived.ChangeOld
import Derived.Below
import Derived.SizedLaws
import Derived.Test.YtabfihicdphjeaaGT
/- ShipAll: the walk. -/
namespace Go.Proofs.Ytabfihicdphjeaa
open Go.RowKit
set_option linter.unusedVariables false

set_option maxRecDepth 20000 in
set_option maxHeartbeats 16000000 in
theorem shipAll_walk (v : Value) (rs : List Cw) (t : Int) (w : World) (h : IsC w v rs) (hf : FitC rs) (hl : rs.length * 40 ≤ 140737488351232) (ht : (Lit.int .i64 t).wf = true) :
    Calls Try.prog 5 #[v, .int .i64 t] w fun E w' => E = .returned (.bool true) ∧ Below w.heap.size w w' := by
  have It : Hid (I64 t) := hide (by
    have := range_i64 (zs := [t]) (by simpa using ht) 0
    simpa [I64] using this)
  clear ht
  obtain ⟨ao, cap, hvl, _, _⟩ := h.1.shape
  have HI := hide h
  have HF := hide hf
  rw [hvl] at HI
  subst hvl
  clear h hf
  go_enter Try.func5, Try.ntmps5
  go_wp2_with fail
  refine (lives17_any w).mono ?_
  rintro E w1 ⟨rfl, b1⟩
  have B1 := hide b1
  have SML := hide (small17_any _ rs w1 (HI.out.below b1) (by omega))
  have FOL := hide (cfol_any 0 0 _ rs w1 (HI.out.below b1) HF.out (by omega))
  unfold flv at FOL
  have HG := hide (Cm.fol_good (cvs rs) 0 0 0)
  have HZ := hide (Cm.fol_at (cvs rs) 0 0 0)
  obtain ⟨fl, hfl⟩ : ∃ f, Cm.fol 0 0 0 (cvs rs) = f := ⟨_, rfl⟩
  rw [hfl] at FOL HG HZ
  obtain ⟨fe, fp⟩ := fl
  simp only at FOL HG HZ
  clear b1 hfl
  go_wp2_with fail
  refine SML.out.mono ?_
  rintro E w2 ⟨⟨bs, rfl, hbs⟩, rfl⟩
  clear SML
  cases bs with
  | false =>
    go_wp2
    go_ret
    exact ⟨rfl, B1.out⟩
  | true =>
  obtain ⟨hs1, hs2⟩ := hbs rfl
  have HS2 := hide hs2
  clear hbs hs2
  go_wp2_with fail
  refine FOL.out.mono ?_
  rintro E w2 ⟨rfl, b2⟩
  have B2 := hide (B1.out.trans (b2.mono B1.out.size))
  have hnq := Try.neqF fe fp 0 0
  have hgd := Try.guardF
  clear b2 FOL
  by_cases hfe : fe = 0
  case neg =>
    have hb : (!((fe == 0) && (fp == 0))) = true := by simp [hfe]
    rw [hb] at hnq
    clear HG HZ
    go_wp2
    go_ret
    exact ⟨rfl, B2.out⟩
  have hfp : fp = 0 := HZ.out hfe
  have GD : Hid (Cm.Good 0 0 (cvs rs)) := hide (HG.out.1 hfe)
  have hb : (!((fe == 0) && (fp == 0))) = false := by simp [hfe, hfp]
  rw [hb] at hnq
  obtain ⟨ep, hep⟩ : ∃ ep, epo17 (cvs rs) = ep := ⟨_, rfl⟩
  have HEP := hide hep
  clear HG HZ hb hep
  go_upto_if 28 with fail
  go_cut [5] from 26 to 35 (fun vq wx => vq = .int .i64 ep ∧ w2 = wx)
  case first =>
    by_cases h0 : 0 < rs.length
    · obtain ⟨b, off, cap', hv, _, _, hlt, hcell⟩ := (HI.out.below B2.out).1.full h0
      simp only [Value.slice.injEq, true_and] at hv
      obtain ⟨c, hc⟩ : ∃ c, rs[rs.length - 1]? = some c := ⟨rs[rs.length - 1], by rw [List.getElem?_eq_getElem]⟩
      obtain ⟨d0, _, _⟩ := hcell _ c hc
      have hla := last_row hc (by omega)
      have hec : c.e = ep := by
        rw [← HEP.out, ← hla]
        unfold epo17
        rw [if_neg (by rw [cvs_n]; omega)]
      rw [hec] at d0
      obtain ⟨n, hn⟩ : ∃ n, rs.length = n + 1 := ⟨rs.length - 1, by omega⟩
      have hn1 : rs.length - 1 = n := by omega
      have hn2 : (rs.length : Int) - 1 = (n : Int) := by omega
      have hn3 : (n : Int) < rs.length := by omega
      have hn4 : (0 : Int) < rs.length := by omega
      have hn5 : (0 : Int) ≤ (n : Int) := by omega
      rw [hn1] at d0
      obtain ⟨rfl, rfl⟩ := hv
      clear hcell hc hla hec hn hn1
      go_wp2
      go_meet
      case rel => exact ⟨rfl, rfl⟩
    · have h0' : ¬ (0 : Int) < rs.length := by omega
      have hep1 : (1 : Int) = ep := by
        rw [← HEP.out]
        unfold epo17
        rw [if_pos (by rw [cvs_n]; omega)]
      go_wp2
      go_meet
      case rel => exact ⟨rfl, rfl⟩
  case rest =>
  obtain ⟨rfl, rfl⟩ := hcut
  have EPB := (epo_ok GD.out).2
  rw [HEP.out] at EPB
  have EP64 : Hid (In64 ep) := hide ⟨by omega, by omega⟩
  have hlen : (cvs rs).length = rs.length := cvs_n rs
  have HLN := hide hlen
  clear hlen hnq hfe hfp
  have PK := hide (pickx_any t ((rs.length : Int) + 1) w2 (by omega) (by omega) It.out)
  have hpt := pk_lt t ((rs.length : Int) + 1) (by omega)
  obtain ⟨f0, hf0⟩ : ∃ n : Nat, pk t ((rs.length : Int) + 1) = (n : Int) := ⟨(pk t ((rs.length : Int) + 1)).toNat, by omega⟩
  rw [hf0] at PK hpt
  have hfl : f0 ≤ rs.length := by omega
  have hw1 : IntKind.i64.wrap ((rs.length : Int) + 1) = (rs.length : Int) + 1 := wrap64s _ (by omega) (by omega)
  have HNX : Hid (∀ i : Nat, i ≤ rs.length → Shp.nxtE ep (cvs rs) i = 0 ∧ (Shp.nxt ep (cvs rs) i).f = (i : Int) + 1 ∧ (Shp.nxt ep (cvs rs) i).cs = ((cvs rs).drop i).take 4 ∧ Mm.Ok (Shp.nxt ep (cvs rs) i)) := hide fun i hi => by
    have := nxt_is GD.out (by rw [HLN.out]; exact hs1) i (by rw [HLN.out]; exact hi)
    rw [HEP.out] at this
    exact this
  clear hf0
  go_wp2_with fail
  refine PK.out.mono ?_
  rintro E w3 ⟨rfl, rfl⟩
  clear PK
  go_wp2
  go_loopw [7, 8] (fun gv iv wr => ∃ (i : Nat) (gr : List Cw) (ga : Option Addr) (gn gk : Nat), gv = .slice ga gn gk ∧ iv = .int .i64 (i : Int) ∧ f0 ≤ i ∧ i ≤ rs.length ∧ Hid (Got w2.heap.size wr (.slice ga gn gk) gr (((cvs rs).drop f0).take (i - f0)) ∧ Below w2.heap.size w2 wr)) (fun _ iv _ => rs.length - (intOf iv).toNat)
  case atStart => exact ⟨f0, [], none, 0, 0, rfl, rfl, by omega, hfl, hide ⟨⟨OwnR.nil _ _ _, fun c hc => by simp at hc, fun c hc => by simp at hc, fun c hc => by simp at hc, by rw [Nat.sub_self]; rfl⟩, Below.refl _ _⟩⟩
  case round =>
    obtain ⟨i, gr, ga, gn, gk, rfl, rfl, hfi, hil, HGT⟩ := hrel
    have bW : Below w.heap.size w wr := B2.out.trans (HGT.out.2.mono B2.out.size)
    by_cases hlt : i < rs.length
    · have hlt' : (i : Int) < rs.length := by omega
      obtain ⟨e1, e2, e3, e4⟩ := HNX.out i (by omega)
      have X1 := hide (pnext_any ep i _ rs wr (HI.out.below bW) HF.out (by omega) EP64.out ⟨by omega, by omega⟩)
      obtain ⟨m, hm⟩ : ∃ m, Shp.nxt ep (cvs rs) i = m := ⟨_, rfl⟩
      rw [e1, hm] at X1
      rw [hm] at e2 e3 e4
      have hd : m.cs.length = min 4 (rs.length - i) := by rw [e3, List.length_take, List.length_drop, HLN.out]
      obtain ⟨d, hdd⟩ : ∃ d, m.cs.length = d := ⟨_, rfl⟩
      have hd1 : 1 ≤ d ∧ d ≤ 4 ∧ i + d ≤ rs.length := by omega
      have hjoin : ((cvs rs).drop f0).take (i - f0) ++ m.cs = ((cvs rs).drop f0).take (i + d - f0) := by
        rw [e3, show i + d - f0 = (i - f0) + d by omega, List.take_add, List.drop_drop, show f0 + (i - f0) = i by omega]
        congr 1
        rw [← hdd, hd]
        have hx : ((cvs rs).drop i).length = rs.length - i := by rw [List.length_drop, HLN.out]
        rcases Nat.le_total 4 (rs.length - i) with h4 | h4
        · rw [Nat.min_eq_left h4]
        · rw [Nat.min_eq_right h4, List.take_of_length_le (by omega), List.take_of_length_le (by omega)]
      have HJ := hide hjoin
      have E2 := hide e2
      have E4 := hide e4
      have HDD := hide hdd
      clear e1 e2 e3 e4 hm hd hjoin hdd bW
      go_wp2_with fail
      refine X1.out.mono ?_
      intro E x1 hE
      obtain ⟨sa1, so1, ca1, co1, cs1, rfl, T1⟩ := hE.open
      obtain ⟨y1, hy1, b1, L1⟩ := blt_new T1
      have s1 : Below wr.heap.size wr y1 := T1.bel.trans (b1.mono T1.bel.size)
      obtain ⟨p0, p1, p2, p3, p4, p5, p6, p7⟩ := L1.ei
      have XC := hide (mcheck_any (mw17 m sa1 so1 ca1 co1 cs1) 0 y1 L1.own.is L1.fit (by rw [L1.m']; exact .inl ⟨rfl, E4.out⟩))
      unfold mv mw17 at XC
      simp only at XC
      have L1 := hide L1
      have G1 := hide (HGT.out.1.below s1)
      have D1 := hide (HGT.out.2.trans (s1.mono HGT.out.2.size))
      have W1 : Hid (w2.heap.size ≤ wr.heap.size) := hide HGT.out.2.size
      clear hE T1 b1 s1 X1 HGT
      go_wp2_with fail
      refine XC.out.mono ?_
      rintro E x2 ⟨rfl, b2⟩
      have D2 := hide (D1.out.trans (b2.mono D1.out.size))
      have L2 := L1.out.below b2
      have G2 := G1.out.below b2
      have p5 : x2.cell? ⟨x1.heap.size, 5, none⟩ = some (.int .i64 m.f) := blk_cell L2.blk 5 rfl
      have p7 : x2.cell? ⟨x1.heap.size, 7, none⟩ = some (.slice ca1 m.cs.length co1) := blk_cell L2.blk 7 rfl
      have GK : Got w2.heap.size x2 (.slice ca1 m.cs.length co1) cs1 m.cs := ⟨L2.own.c.rebase W1.out, fun c hc => (L2.own.o c hc).rebase W1.out, L2.own.i, L2.fit.fc, L2.is⟩
      have hgl : gr.length ≤ 40 := by
        have := congrArg List.length G2.is
        rw [cvs_n, List.length_take] at this
        omega
      have hcl : cs1.length ≤ 4 := by
        have := congrArg List.length L2.is
        rw [cvs_n, HDD.out] at this
        omega
      have APP := hide (G2.more D2.out.size GK (by omega))
      have PB : Hid (∀ W, x2.grownBy W (Value.slice ga gn gk).ownBlock → W.cell? ⟨x1.heap.size, 5, none⟩ = some (.int .i64 m.f) ∧ W.cell? ⟨x1.heap.size, 7, none⟩ = some (.slice ca1 m.cs.length co1) ∧ Below w2.heap.size w2 W) := hide fun W hW => by
        have hne : some x1.heap.size ≠ (Value.slice ga gn gk).ownBlock := fun e => by
          obtain ⟨cs, hcs⟩ := G2.c.type e.symm
          rw [L2.blk] at hcs
          simp only [Option.some.injEq, Obj.cells.injEq] at hcs
          exact absurd hcs.2.1 (by decide)
        have kb := (hW.block x1.heap.size (blk_lt L2.blk) hne).trans L2.blk
        exact ⟨blk_cell kb 5 rfl, blk_cell kb 7 rfl, D2.out.grown hW D2.out.size fun g hg => (World.ownsRow.lt G2.c g hg).1⟩
      have hm1 := E2.out
      have hm2 := HDD.out
      have hi1 : IntKind.i64.wrap ((i : Int) + 1) = (i : Int) + 1 := wrap64s _ (by omega) (by omega)
      have hd0 : ((d : Int) == 0) = false := by rw [beq_eq_false_iff_ne]; omega
      have hd4 : ¬ (4 : Int) < d := by omega
      have hde : ¬ d = 0 := by omega
      rw [hm2] at APP PB p7
      rw [hm1] at PB p5
      clear XC b2 L1 L2 G1 G2 GK p0 p1 p2 p3 p4 p6 hy1 hm1 hm2 D1 D2 hgl hcl
      go_wp2_with (at_builtin; refine wpList_append_at rfl (.tmp 79) (.tmp 81) 24 rfl (.slice ga gn gk) (.slice ca1 d co1) rfl rfl APP.out ?_; rintro v8 w8 ⟨⟨r8, G8, gr8⟩, a8, n8, k8, rfl⟩; obtain ⟨p5', p7', B8⟩ := PB.out w8 gr8)
      rw [HJ.out] at G8
      have HG8 : Hid (Got w2.heap.size w8 (.slice a8 n8 k8) r8 (((cvs rs).drop f0).take (i + d - f0)) ∧ Below w2.heap.size w2 w8) := hide ⟨G8.out, B8⟩
      have hi2 : (i : Int) + 1 - 1 + (d : Int) = ((i + d : Nat) : Int) := by omega
      clear APP PB G8 gr8 B8 p5 p7
      go_wp2
      go_roundw
      case rel => exact ⟨i + d, r8, a8, n8, k8, rfl, by go_num, by omega, by omega, HG8⟩
      case measure => simp [intOf]; omega
    · have hlt' : ¬ (i : Int) < rs.length := by omega
      have hir : i = rs.length := by omega
      obtain ⟨e1, e2, e3, e4⟩ := HNX.out rs.length (Nat.le_refl _)
      have X1 := hide (pnext_any ep rs.length _ rs wr (HI.out.below bW) HF.out (by omega) EP64.out ⟨by omega, by omega⟩)
      obtain ⟨m, hm⟩ : ∃ m, Shp.nxt ep (cvs rs) rs.length = m := ⟨_, rfl⟩
      rw [e1, hm] at X1
      rw [hm] at e3
      have HC0 : Hid (m.cs.length = 0) := hide (by rw [e3, List.length_take, List.length_drop, HLN.out]; omega)
      have GOT : Hid (Got w2.heap.size wr (.slice ga gn gk) gr ((cvs rs).drop f0) ∧ Below w2.heap.size w2 wr) := hide (by
        have := HGT.out
        rw [hir, List.take_of_length_le (by rw [List.length_drop, HLN.out]; omega)] at this
        exact this)
      obtain ⟨hh1, hh2, hh3⟩ := hel_is GD.out (r := 2) (by omega) (by omega)
      rw [HEP.out] at hh1 hh2 hh3
      obtain ⟨q, hq⟩ : ∃ m, Shp.hel ep 2 (cvs rs) = m := ⟨_, rfl⟩
      rw [hq] at hh2 hh3
      have OKQ := hide hh3
      have QN : Hid (q.n = rs.length) := hide (by rw [hh2, HLN.out])
      have HEL : Hid (∀ W, Below w.heap.size w W → Calls Try.prog 9 #[.int .i64 ep, .int .u8 2, .slice ao rs.length cap] W (DecR W q 0)) := hide fun W hW => by
        have := phello_any ep 2 _ rs W (HI.out.below hW) HF.out (by omega) EP64.out (by omega) (by omega)
        rw [hh1, hq] at this
        exact this
      have BWR := hide bW
      clear e1 e2 e3 e4 hm HGT HNX hh1 hh2 hh3 hq bW hir
      go_wp2_with fail
      refine X1.out.mono ?_
      intro E x1 hE
      obtain ⟨sa1, so1, ca1, co1, cs1, rfl, T1⟩ := hE.open
      obtain ⟨y1, hy1, b1, L1⟩ := blt_new T1
      have s1 : Below wr.heap.size wr y1 := T1.bel.trans (b1.mono T1.bel.size)
      have L1 := hide L1
      have G1 := hide (GOT.out.1.below s1)
      have D1 := hide (BWR.out.trans (s1.mono BWR.out.size))
      have X2 := hide (HEL.out y1 D1.out)
      clear hE T1 b1 s1 X1 GOT BWR HEL
      go_wp2_with fail
      refine X2.out.mono ?_
      intro E x2 hE
      obtain ⟨sa2, so2, ca2, co2, cs2, rfl, T2⟩ := hE.open
      obtain ⟨y2, hy2, b2, L2⟩ := blt_new T2
      have s2 : Below y1.heap.size y1 y2 := T2.bel.trans (b2.mono T2.bel.size)
      have D2 := hide (D1.out.trans (s2.mono D1.out.size))
      have k1 := (L1.out.below s2).blk
      have c7 : y2.cell? ⟨x1.heap.size, 7, none⟩ = some (.slice ca1 m.cs.length co1) := blk_cell k1 7 rfl
      rw [HC0.out] at c7
      obtain ⟨p0, p1, p2, p3, p4, p5, p6, p7⟩ := L2.ei
      have XC := hide (mcheck_any (mw17 q sa2 so2 ca2 co2 cs2) 0 y2 L2.own.is L2.fit (by rw [L2.m']; exact .inl ⟨rfl, OKQ.out⟩))
      unfold mv mw17 at XC
      simp only at XC
      have L2 := hide L2
      have G2 := hide (G1.out.below s2)
      clear hE T2 b2 s2 X2 L1 G1 k1 hy1
      go_wp2_with fail
      refine XC.out.mono ?_
      rintro E x3 ⟨rfl, b3⟩
      have D3 := hide (D2.out.trans (b3.mono D2.out.size))
      have c3 : x3.cell? ⟨x2.heap.size, 3, none⟩ = some (.int .i64 q.n) := blk_cell (L2.out.below b3).blk 3 rfl
      rw [QN.out] at c3
      have G3 := hide (G2.out.below b3)
      have SL : Hid (∃ vs, (∀ wx, (Instr.slice 24 (.slice ao rs.length cap) (some (.int .i64 (f0 : Int))) none none).run Try.prog wx = .ok vs wx) ∧ (∃ a n c, vs = .slice a n c) ∧ Calls Try.prog 11 #[.slice ga gn gk, vs] x3 fun E w' => E = .returned (.bool true) ∧ Below x3.heap.size x3 w') := hide (by
        have his := HI.out.below D3.out
        have hcd : cvs (rs.drop f0) = (cvs rs).drop f0 := by unfold cvs; rw [List.map_drop]
        have hgl : gr.length ≤ 40 := by
          have := congrArg List.length G3.out.is
          rw [cvs_n, List.length_drop, HLN.out] at this
          omega
        have fin : ∀ vs, IsC x3 vs (rs.drop f0) → Calls Try.prog 11 #[.slice ga gn gk, vs] x3 fun E w' => E = .returned (.bool true) ∧ Below x3.heap.size x3 w' := fun vs hvs => by
          have := sameCs_any (.slice ga gn gk) vs gr (rs.drop f0) x3 G3.out.isC hvs G3.out.f (fun c hc => HF.out c (List.mem_of_mem_drop hc)) (by omega) (by rw [List.length_drop]; omega)
          rw [G3.out.is, hcd, sameV_iff.2 rfl] at this
          exact this
        by_cases hlf : f0 < rs.length
        · obtain ⟨vs, hsl, isl⟩ := his.1.slice_l Try.elemC Try.sizeC f0 hlf
          obtain ⟨a, c, hv, _, _⟩ := isl.shape
          exact ⟨vs, hsl, ⟨a, _, c, hv⟩, fin vs ⟨isl, fun c hc => his.2 c (List.mem_of_mem_drop hc)⟩⟩
        · obtain rfl : f0 = rs.length := by omega
          obtain ⟨a, c, hrun, hrow⟩ : ∃ a c, (∀ wx, (Instr.slice 24 (.slice ao rs.length cap) (some (.int .i64 (rs.length : Int))) none none).run Try.prog wx = .ok (.slice a 0 c) wx) ∧ RowC x3 (.slice a 0 c) [] := by
            obtain ⟨_, _, hv0, hcp, hcm⟩ := his.1.shape
            simp only [Value.slice.injEq, true_and] at hv0
            obtain ⟨rfl, rfl⟩ := hv0
            have hr := fun wx => run_slice_l wx 24 ao rs.length cap Try.elemC .i64 (rs.length : Int) (by omega) (by omega)
            cases ao with
            | none =>
              have hz : rs.length = 0 ∧ cap = 0 := by
                rcases his.1 with ⟨hv, hy⟩ | ⟨ad, cc, hv, _⟩
                · simp at hv
                  exact ⟨by rw [hv.1]; rfl, hv.2⟩
                · simp at hv
              refine ⟨none, 0, fun wx => ?_, .inl ⟨rfl, rfl⟩⟩
              rw [hr, Try.sizeC]
              simp [Result.andThen, sliced, hz.1, hz.2]
            | some ad =>
              by_cases hcc : cap = rs.length
              · refine ⟨some ad, 0, fun wx => ?_, .inr ⟨ad, 0, rfl, by simp, by simp, fun j u hj => by simp [ccells] at hj⟩⟩
                rw [hr, Try.sizeC]
                simp [Result.andThen, sliced, hcc]
              · refine ⟨some (ad.add (rs.length * 3)), cap - rs.length, fun wx => ?_, .inr ⟨_, _, rfl, by simp, by omega, fun j u hj => by simp [ccells] at hj⟩⟩
                rw [hr, Try.sizeC]
                simp [Result.andThen, sliced, hcc]
          refine ⟨_, hrun, ⟨a, 0, c, rfl⟩, fin _ ?_⟩
          rw [List.drop_of_length_le (Nat.le_refl _)]
          exact ⟨hrow, fun c hc => by simp at hc⟩)
      obtain ⟨vs, hsl, ⟨xa, xn, xk, rfl⟩, hsm⟩ := SL.out
      have SM := hide hsm
      clear SL hsm XC b3 L2 G2 G3 p0 p1 p2 p3 p4 p5 p6 p7 hy2 D2
      go_wp2_with fail
      refine SM.out.mono ?_
      rintro E x4 ⟨rfl, b4⟩
      have D4 := hide (D3.out.trans (b4.mono D3.out.size))
      clear SM b4
      go_wp2
      go_ret
      exact ⟨rfl, D4.out⟩

end Go.Proofs.Ytabfihicdphjeaa

/- Proved: ShipAll -/
namespace Go.Proofs.Ytabfihicdphjeaa
open Go.ChangeShapes Go.WideShapes Go.ChangeAt Go.RowKit
open Go.ChangeMaps (open_string shut_string)
set_option linter.unusedVariables false

namespace shipAllFrame
theorem own : ownKnob Try.prog.godebug = none := by kernel_rfl
theorem laidOut : laidOutB Try.prog = true := by kernel_rfl
theorem cells46 : Try.prog.cellsOf 46 = 3 := by kernel_rfl
theorem bytes46 : Try.prog.bytesOf 46 = 40 := by kernel_rfl
theorem cells62 : Try.prog.cellsOf 62 = 3 := by kernel_rfl
theorem bytes62 : Try.prog.bytesOf 62 = 40 := by kernel_rfl

set_option maxRecDepth 100000 in
theorem lifted (os : Os) (started : os.Started) (H : Type) (enc : TypeId × Value → H) :
    ReturnsInHanded {} Try.checked os 5 .any (Rows.shipAllSpec.pre6 enc Try.prog Try.f5 Rows.shipAllRow.domain false) (Rows.shipAllSpec.post enc Try.prog Try.f5 false true false false) := by
  refine returnsInHanded_of_change_sized (C := Try.checked) own started (by kernel_rfl) Try.func5
    (ChangeSpec.witness6 (enc := enc) (C := Try.checked) false ⟨#[], #[.slice none 0 0, .int .i64 0], []⟩ 8 (by kernel_rfl) (by kernel_rfl) (by kernel_rfl) (by kernel_rfl)) ?_
  intro W base args ds gs before hval0 hW hcnd hsz0 _
  have hsz : (DataW.weightsEach Try.prog (Try.f5.params.toList ++ Rows.shipAllSpec.plain.varTypes Try.prog) (ds ++ gs)).all (· ≤ reachBytes) = true := hsz0
  clear hsz0
  have hval : ∀ (j : Nat) t v, Try.f5.params[j]? = some t → args[j]? = some v → Value.okWide Try.prog W .any base t v := hval0
  have hW' := hW
  obtain ⟨p, q, hA0, hV, rfl, hfz, hnd⟩ := hW
  have hA : DataW.TrodAll enc Try.prog W 0 (fun _ => true) true Try.f5.params.toList args.toList ds p := hA0
  rw [Try.params5] at hA hval hsz
  obtain ⟨v0, vs0, d0, ds0, p0, q0, hargs, rfl, rfl, h0, r0⟩ := trodAll_cons hA
  obtain ⟨v1, vs1, d1, ds1, p1, q1, rfl, rfl, rfl, h1, r1⟩ := trodAll_cons r0
  obtain ⟨rfl, rfl, rfl⟩ := trodAll_nil r1
  obtain rfl : args = #[v0, v1] := by cases args; simp_all
  obtain ⟨rfl, rfl⟩ := trodVars_none hV
  obtain ⟨a0, len0, cap0, rfl⟩ := okWide_slice Try.underlying24 (hval 0 24 v0 rfl rfl)
  have k0 := h0
  have lt0 : ∀ x ∈ p0, x.block < W.heap.size := by obtain ⟨m, hm⟩ := k0; exact DataW.trod_lt m _ _ _ hm
  obtain ⟨z0, w0, g0, b0⟩ : ∃ r, IsC W (.slice a0 len0 cap0) r ∧ FitC r ∧ r.length * 40 ≤ 140737488351232 := by
    obtain ⟨fuel, hf⟩ := h0
    have hf' : DataW.trod enc Try.prog W 0 (fun _ => true) true fuel 24 [.slice a0 len0 cap0] = some (d0, p0) := by simpa [Value.cells] using hf
    obtain ⟨r, hr, hd⟩ := open_coms Try.underlying24 Try.underlying46 (by kernel_rfl) cells46 Try.underlying3 Try.underlying3 Try.underlying44 Try.underlying62 (by kernel_rfl) cells62 Try.underlying4 Try.underlying9 Try.underlying9 hf'
    rcases hd with ⟨_, rfl⟩ | ⟨es, sp, hd, hln, hes⟩
    · exact ⟨[], hr, fun c hc => by simp at hc, by simp⟩
    · simp only at hd
      rw [hd] at hsz
      obtain ⟨h1, h2⟩ := sized_coms hsz (j := 0) (t := 24) (e := 46) rfl rfl hln hes Try.underlying24 Try.underlying46 bytes46 Try.underlying44 Try.underlying62 bytes62
      exact ⟨r, hr, h1, h2⟩
  obtain ⟨a1, rfl, rfl, rfl, w1⟩ := open_int Try.underlying3 (hval 1 3 v1 rfl rfl) h1
  clear hA0 hval0
  refine (shipAll_walk _ z0 a1 W w0 g0 b0 w1).mono fun e W' ⟨he, bel⟩ => ?_
  subst he
  exact ⟨_, rfl, _, _, _, [], _, [], hW', trodAll_mk1 (shut_bool Try.underlying4 _), (trodAll_cons_mk (Below.trod laidOut (by kernel_rfl) (of_decide_eq_true (by kernel_rfl)) k0 bel lt0) (trodAll_cons_mk (shut_int Try.underlying3 w1) trodAll_mk0)), rfl, bel.frame _, fun h => by cases h⟩

theorem over : Rows.shipAllRow.holds Try.pinned (OpenSpec.ofChange Rows.shipAllSpec) :=
  OpenClaim.holds_of_wide 5 Try.f5 rfl rfl rfl rfl rfl rfl rfl ⟨rfl, rfl, rfl, rfl, rfl⟩ rfl rfl rfl rfl rfl (by kernel_rfl) Try.func5 (by kernel_rfl)
    (of_decide_eq_true (by kernel_rfl)) (by unfold Func.isWrapper; first | (rw [if_pos (by decide +kernel)]; kernel_rfl) | (rw [if_neg (by decide +kernel)]; exact ⟨rfl, rfl⟩))
    (fun os started H enc _ => lifted os started H enc)
end shipAllFrame

/-- The statement. -/
theorem shipAll_holds : Rows.ShipAllSaid := shipAllFrame.over
#print axioms shipAll_holds
end Go.Proofs.Ytabfihicdphjeaa
