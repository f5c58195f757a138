/- Texts of one layer, one behind the other. -/
import Derived.Test.YtabfihicdphjeaaGM
import Derived.Test.YtabfihicdphjeaaGO
import Derived.Test.YtabfihicdphjeaaGQ
import Derived.Test.YtabfihicdphjeaaGR
/- ShipCalls: the walk. -/
namespace Go.Proofs.Ytabfihicdphjeaa
open Go.RowKit
set_option linter.unusedVariables false

theorem fit_eq {rs r : List Cw} (he : cvs rs = cvs r) (hf : FitC r) : FitC rs := fun c hc => by
  obtain ⟨k, hk⟩ := List.getElem?_of_mem hc
  have h1 := cvs_at1 hk
  rw [he] at h1
  unfold cvs at h1
  rw [List.getElem?_map] at h1
  cases hd : r[k]? with
  | none => rw [hd] at h1; simp at h1
  | some d =>
    rw [hd] at h1
    simp only [Option.map_some, Option.some.injEq] at h1
    have e : d.l = c.l := congrArg Cm.Cv.l h1
    have := hf d (List.mem_of_getElem? hd)
    rw [e] at this
    exact this

theorem ops_eq {rs : List Cw} {l : List Cm.Cv} (he : cvs rs = l) {n : Nat} (hf : ∀ c ∈ l, c.l.length ≤ n) : ∀ c ∈ rs, c.l.length ≤ n := fun c hc => by
  have : c.c ∈ l := by rw [← he]; exact List.mem_map_of_mem hc
  exact hf _ this

theorem nxt_in (e k : Int) (l : List Cm.Cv) : (Shp.nxt e l k).cs.length ≤ 4 ∧ ∀ c ∈ (Shp.nxt e l k).cs, c ∈ l := by
  unfold Shp.nxt
  split
  · refine ⟨?_, fun c hc => List.mem_of_mem_drop (List.mem_of_mem_take hc)⟩
    show ((l.drop k.toNat).take 4).length ≤ 4
    rw [List.length_take]; omega
  · exact ⟨by simp [Mm.no], fun c hc => by simp [Mm.no] at hc⟩

set_option maxRecDepth 20000 in
set_option maxHeartbeats 16000000 in
theorem shipCalls_w (e r : Int) (v : Value) (rs : List Cw) (k : Int) (w : World) (he : In64 e) (hr0 : 0 ≤ r) (hr1 : r < 256) (h : IsC w v rs) (hf : FitC rs) (hl : rs.length ≤ 140737488355328) (hk : In64 k) :
    Calls Try.prog 4 #[.int .i64 e, .int .u8 r, v, .int .i64 k] w fun E w' => E = .returned (.bool true) ∧ Below w.heap.size w w' := by
  obtain ⟨ao, cap, hvl, _, _⟩ := h.1.shape
  have HI := hide h
  have HF := hide hf
  have HEK := hide (And.intro he hk)
  rw [hvl] at HI
  subst hvl
  clear h hf he hk
  go_enter Try.func4, Try.ntmps4
  go_wp2_with fail
  refine (lives17_any w).mono ?_
  rintro E w1 ⟨rfl, b1⟩
  have B1 := hide b1
  have SML := hide (small17_any _ rs w1 (HI.out.below b1) hl)
  clear b1
  go_wp2_with fail
  refine SML.out.mono ?_
  rintro E w2 ⟨⟨bs, rfl, hbs⟩, rfl⟩
  clear SML
  cases bs with
  | false =>
    go_wp2
    go_ret
    exact ⟨rfl, B1.out⟩
  | true =>
  obtain ⟨hs1, hs2⟩ := hbs rfl
  have hs3 : ∀ c ∈ cvs rs, c.l.length ≤ 40 := fun c hc => by
    obtain ⟨d, hd, rfl⟩ := List.mem_map.1 hc
    exact hs2 d hd
  have HS3 := hide hs3
  have LC := hide (lentCs_ap _ rs w1 (HI.out.below B1.out) HF.out (by omega))
  clear hbs hs2 hs3
  go_wp2_with fail
  refine LC.out.mono ?_
  rintro E w3 ⟨vf, ru, rfl, of3, hcv, hlr, hap, b3⟩
  have hru : ru.length = rs.length := by rw [← cvs_n, hcv, cvs_n]
  obtain ⟨vs, hsl, os3, hob, sa, sc, hvs⟩ := ownR_cut of3 rs.length (by rw [List.length_append]; omega) (by rw [List.length_append]; simp)
  rw [List.take_left' hru] at os3
  have OC3 : Hid (Oc w1.heap.size w3 vs ru) := hide ⟨os3, fun c hc => (hlr c hc).ownO, fun c hc => ((hlr.inC hcv (HI.out.below B1.out).2) c hc).2, hap, by omega, fun c hc => Nat.le_trans (ops_eq hcv HS3.out c hc) (by omega), fit_eq hcv HF.out⟩
  have OF3 := hide of3
  have LR3 := hide hlr
  have HCV := hide hcv
  have B3 := hide b3
  have BW3 := hide (B1.out.trans (b3.mono B1.out.size))
  obtain ⟨fa, fk, hvf, _, _⟩ := of3.row.shape
  have hfl : (ru ++ [behC, behC, behC]).length = rs.length + 3 := by rw [List.length_append, hru]; rfl
  rw [hfl] at hvf
  subst hvs
  rw [hvf] at hsl OF3
  subst hvf
  obtain ⟨m1, hm1⟩ : ∃ m, Shp.hel e r (cvs rs) = m := ⟨_, rfl⟩
  obtain ⟨z1, hz1⟩ : ∃ z, Shp.helE e r (cvs rs) = z := ⟨_, rfl⟩
  obtain ⟨m2, hm2⟩ : ∃ m, Shp.nxt e (cvs rs) k = m := ⟨_, rfl⟩
  obtain ⟨z2, hz2⟩ : ∃ z, Shp.nxtE e (cvs rs) k = z := ⟨_, rfl⟩
  obtain ⟨m3, hm3⟩ : ∃ m, Shp.ack e k = m := ⟨_, rfl⟩
  obtain ⟨z3, hz3⟩ : ∃ z, Shp.ackE e k = z := ⟨_, rfl⟩
  have M2 : Hid (m2.cs.length ≤ 4 ∧ ∀ c ∈ m2.cs, c.l.length ≤ 40) := hide (by
    have := nxt_in e k (cvs rs)
    rw [hm2] at this
    exact ⟨this.1, fun c hc => HS3.out c (this.2 c hc)⟩)
  have HA1 : Hid (∀ W, Below w3.heap.size w3 W → Calls Try.prog 9 #[.int .i64 e, .int .u8 r, .slice sa rs.length sc] W (DecR W m1 z1)) := hide fun W hW => by
    have := phello_any e r (.slice sa rs.length sc) ru W ⟨(OC3.out.below hW).c.row, fun c hc => ⟨((OC3.out.below hW).o c hc).is, OC3.out.i c hc⟩⟩ OC3.out.fit (by omega) HEK.out.1 hr0 hr1
    rw [HCV.out, hm1, hz1] at this
    exact this
  have HA2 : Hid (∀ W, Below w3.heap.size w3 W → Calls Try.prog 16 #[.int .i64 e, .int .u8 r, .slice ao rs.length cap] W (DecR W m1 z1)) := hide fun W hW => by
    have := helloR_any e r _ rs W (HI.out.below (BW3.out.trans (hW.mono BW3.out.size))) HF.out (by omega) HEK.out.1 hr0 hr1
    rw [hm1, hz1] at this
    exact this
  have HA3 : Hid (∀ W, Below w3.heap.size w3 W → Calls Try.prog 7 #[.int .i64 e, .slice sa rs.length sc, .int .i64 k] W (DecR W m2 z2)) := hide fun W hW => by
    have := pnext_any e k (.slice sa rs.length sc) ru W ⟨(OC3.out.below hW).c.row, fun c hc => ⟨((OC3.out.below hW).o c hc).is, OC3.out.i c hc⟩⟩ OC3.out.fit (by omega) HEK.out.1 HEK.out.2
    rw [HCV.out, hm2, hz2] at this
    exact this
  have HA5 : Hid (∀ W, Below w3.heap.size w3 W → Calls Try.prog 17 #[.int .i64 e, .slice ao rs.length cap, .int .i64 k] W (DecR W m2 z2)) := hide fun W hW => by
    have := nextR_any e k _ rs W (HI.out.below (BW3.out.trans (hW.mono BW3.out.size))) HF.out (by omega) HEK.out.1
    rw [hm2, hz2] at this
    exact this
  have HA6 : Hid (∀ W, Calls Try.prog 10 #[.int .i64 e, .int .i64 k] W (DecR W m3 z3)) := hide fun W => by
    have := pack_any e k W HEK.out.1 HEK.out.2
    rw [hm3, hz3] at this
    exact this
  have HA7 : Hid (∀ W, Calls Try.prog 18 #[.int .i64 e, .int .i64 k] W (DecR W m3 z3)) := hide fun W => by
    have := ackR_any e k W HEK.out.1 HEK.out.2
    rw [hm3, hz3] at this
    exact this
  have D0 : Hid (Below w3.heap.size w3 w3) := hide (Below.refl _ _)
  clear hm1 hz1 hm2 hz2 hm3 hz3 LC of3 os3 hob hlr hap hcv b3 hfl hr0 hr1
  go_wp2_with fail
  refine (HA1.out _ D0.out).mono ?_
  intro E x1 hE
  obtain ⟨sa1, so1, ca1, co1, cs1, rfl, T1⟩ := hE.open
  obtain ⟨y1, hy1, b1, L1⟩ := blt_new T1
  have s1 : Below w3.heap.size w3 y1 := T1.bel.trans (b1.mono T1.bel.size)
  have D1 := hide (D0.out.trans (s1.mono D0.out.size))
  have L1 := hide L1
  have N1 : Hid (w3.heap.size ≤ x1.heap.size ∧ x1.heap.size < y1.heap.size) := hide ⟨T1.bel.size, blk_lt L1.out.blk⟩
  clear hE T1 b1 s1 D0
  go_wp2_with fail
  refine (HA2.out _ D1.out).mono ?_
  intro E x2 hE
  obtain ⟨sa2, so2, ca2, co2, cs2, rfl, T2⟩ := hE.open
  obtain ⟨y2, hy2, b2, L2⟩ := blt_new T2
  have s2 : Below y1.heap.size y1 y2 := T2.bel.trans (b2.mono T2.bel.size)
  have D2 := hide (D1.out.trans (s2.mono D1.out.size))
  have L2 := hide L2
  have L1 := hide (L1.out.below s2)
  have N2 : Hid (y1.heap.size ≤ x2.heap.size ∧ x2.heap.size < y2.heap.size) := hide ⟨T2.bel.size, blk_lt L2.out.blk⟩
  clear hE T2 b2 s2 D1 hy1
  go_wp2_with fail
  refine (HA3.out _ D2.out).mono ?_
  intro E x3 hE
  obtain ⟨sa3, so3, ca3, co3, cs3, rfl, T3⟩ := hE.open
  obtain ⟨y3, hy3, b3, L3⟩ := blt_new T3
  have s3 : Below y2.heap.size y2 y3 := T3.bel.trans (b3.mono T3.bel.size)
  have D3 := hide (D2.out.trans (s3.mono D2.out.size))
  have L3 := hide L3
  have L1 := hide (L1.out.below s3)
  have L2 := hide (L2.out.below s3)
  have LC3 : Hid (Oc.Lt (.slice ca3 m2.cs.length co3) cs3 y3.heap.size) := hide ⟨fun b hb => (World.ownsRow.lt L3.out.own.c b hb).2, fun c hc b hb => (World.ownsRow.lt (L3.out.own.o c hc) b hb).2⟩
  have N3 : Hid (y2.heap.size ≤ x3.heap.size ∧ x3.heap.size < y3.heap.size) := hide ⟨T3.bel.size, blk_lt L3.out.blk⟩
  clear hE T3 b3 s3 D2 hy2
  go_wp2_with fail
  refine (HA3.out _ D3.out).mono ?_
  intro E x4 hE
  obtain ⟨sa4, so4, ca4, co4, cs4, rfl, T4⟩ := hE.open
  obtain ⟨y4, hy4, b4, L4⟩ := blt_new T4
  have s4 : Below y3.heap.size y3 y4 := T4.bel.trans (b4.mono T4.bel.size)
  have D4 := hide (D3.out.trans (s4.mono D3.out.size))
  have L4 := hide L4
  have L1 := hide (L1.out.below s4)
  have L2 := hide (L2.out.below s4)
  have L3 := hide (L3.out.below s4)
  have N4 : Hid (y3.heap.size ≤ x4.heap.size ∧ x4.heap.size < y4.heap.size) := hide ⟨T4.bel.size, blk_lt L4.out.blk⟩
  clear hE T4 b4 s4 D3 hy3
  go_wp2_with fail
  refine (HA5.out _ D4.out).mono ?_
  intro E x5 hE
  obtain ⟨sa5, so5, ca5, co5, cs5, rfl, T5⟩ := hE.open
  obtain ⟨y5, hy5, b5, L5⟩ := blt_new T5
  have s5 : Below y4.heap.size y4 y5 := T5.bel.trans (b5.mono T5.bel.size)
  have D5 := hide (D4.out.trans (s5.mono D4.out.size))
  have L5 := hide L5
  have L1 := hide (L1.out.below s5)
  have L2 := hide (L2.out.below s5)
  have L3 := hide (L3.out.below s5)
  have L4 := hide (L4.out.below s5)
  have N5 : Hid (y4.heap.size ≤ x5.heap.size ∧ x5.heap.size < y5.heap.size) := hide ⟨T5.bel.size, blk_lt L5.out.blk⟩
  clear hE T5 b5 s5 D4 hy4
  go_wp2_with fail
  refine (HA6.out _).mono ?_
  intro E x6 hE
  obtain ⟨sa6, so6, ca6, co6, cs6, rfl, T6⟩ := hE.open
  obtain ⟨y6, hy6, b6, L6⟩ := blt_new T6
  have s6 : Below y5.heap.size y5 y6 := T6.bel.trans (b6.mono T6.bel.size)
  have D6 := hide (D5.out.trans (s6.mono D5.out.size))
  have L6 := hide L6
  have L1 := hide (L1.out.below s6)
  have L2 := hide (L2.out.below s6)
  have L3 := hide (L3.out.below s6)
  have L4 := hide (L4.out.below s6)
  have L5 := hide (L5.out.below s6)
  have N6 : Hid (y5.heap.size ≤ x6.heap.size ∧ x6.heap.size < y6.heap.size) := hide ⟨T6.bel.size, blk_lt L6.out.blk⟩
  clear hE T6 b6 s6 D5 hy5
  go_wp2_with fail
  refine (HA7.out _).mono ?_
  intro E x7 hE
  obtain ⟨sa7, so7, ca7, co7, cs7, rfl, T7⟩ := hE.open
  obtain ⟨y7, hy7, b7, L7⟩ := blt_new T7
  have s7 : Below y6.heap.size y6 y7 := T7.bel.trans (b7.mono T7.bel.size)
  have D7 := hide (D6.out.trans (s7.mono D6.out.size))
  have L7 := hide L7
  have L1 := hide (L1.out.below s7)
  have L2 := hide (L2.out.below s7)
  have L3 := hide (L3.out.below s7)
  have L4 := hide (L4.out.below s7)
  have L5 := hide (L5.out.below s7)
  have L6 := hide (L6.out.below s7)
  have N7 : Hid (y6.heap.size ≤ x7.heap.size ∧ x7.heap.size < y7.heap.size) := hide ⟨T7.bel.size, blk_lt L7.out.blk⟩
  clear hE T7 b7 s7 D6 hy6
  have ez1 : (z1 != z1) = false := by simp
  have ez2 : (z2 != z2) = false := by simp
  have ez3 : (z3 != z3) = false := by simp
  obtain ⟨p0, p1, p2, p3, p4, p5, p6, p7⟩ := L1.out.ei
  obtain ⟨q0, q1, q2, q3, q4, q5, q6, q7⟩ := L2.out.ei
  go_wp2_with fail
  refine (blt_same L1.out L2.out).mono ?_
  rintro E u1 ⟨rfl, t1⟩
  have D8 := hide (D7.out.trans (t1.mono D7.out.size))
  have L1 := hide (L1.out.below t1)
  have L2 := hide (L2.out.below t1)
  have L3 := hide (L3.out.below t1)
  have L4 := hide (L4.out.below t1)
  have L5 := hide (L5.out.below t1)
  have L6 := hide (L6.out.below t1)
  have L7 := hide (L7.out.below t1)
  clear t1 p0 p1 p2 p3 p4 p5 p6 p7 q0 q1 q2 q3 q4 q5 q6 q7 hy7
  obtain ⟨p0, p1, p2, p3, p4, p5, p6, p7⟩ := L3.out.ei
  obtain ⟨q0, q1, q2, q3, q4, q5, q6, q7⟩ := L5.out.ei
  go_wp2_with fail
  refine (blt_same L3.out L5.out).mono ?_
  rintro E u2 ⟨rfl, t2⟩
  have D8 := hide (D8.out.trans (t2.mono D8.out.size))
  have L1 := hide (L1.out.below t2)
  have L2 := hide (L2.out.below t2)
  have L3 := hide (L3.out.below t2)
  have L4 := hide (L4.out.below t2)
  have L5 := hide (L5.out.below t2)
  have L6 := hide (L6.out.below t2)
  have L7 := hide (L7.out.below t2)
  clear t2 p0 p1 p2 p3 p4 p5 p6 p7 q0 q1 q2 q3 q4 q5 q6 q7
  obtain ⟨p0, p1, p2, p3, p4, p5, p6, p7⟩ := L6.out.ei
  obtain ⟨q0, q1, q2, q3, q4, q5, q6, q7⟩ := L7.out.ei
  go_wp2_with fail
  refine (blt_same L6.out L7.out).mono ?_
  rintro E u3 ⟨rfl, t3⟩
  have D8 := hide (D8.out.trans (t3.mono D8.out.size))
  have L1 := hide (L1.out.below t3)
  have L2 := hide (L2.out.below t3)
  have L3 := hide (L3.out.below t3)
  have L4 := hide (L4.out.below t3)
  have L5 := hide (L5.out.below t3)
  have L6 := hide (L6.out.below t3)
  have L7 := hide (L7.out.below t3)
  clear t3 p0 p1 p2 p3 p4 p5 p6 p7 q0 q1 q2 q3 q4 q5 q6 q7
  have KP := hide (keptCs_yes _ _ ru rs w1.heap.size u3 (OF3.out.below D8.out).row HCV.out (LR3.out.below D8.out) (HI.out.below (BW3.out.trans (D8.out.mono BW3.out.size))) HF.out (by omega))
  go_wp2_with fail
  refine KP.out.mono ?_
  rintro E u4 ⟨rfl, t4⟩
  have D9 := hide (D8.out.trans (t4.mono D8.out.size))
  have L3 := hide (L3.out.below t4)
  have L4 := hide (L4.out.below t4)
  have cc : u4.cell? ⟨x3.heap.size, 7, none⟩ = some (.slice ca3 m2.cs.length co3) := blk_cell L3.out.blk 7 rfl
  have cx : u4.cell? ⟨x4.heap.size, 7, none⟩ = some (.slice ca4 m2.cs.length co4) := blk_cell L4.out.blk 7 rfl
  have few : ∀ {cs : List Cw}, cvs cs = m2.cs → cs.length ≤ 4 ∧ ∀ c ∈ cs, c.l.length ≤ 1000 := fun {cs} h => ⟨by rw [← cvs_n, h]; exact M2.out.1, fun c hc => Nat.le_trans (ops_eq h M2.out.2 c hc) (by omega)⟩
  have O3 := L3.out.oc (few L3.out.is).1 (few L3.out.is).2
  have O4 := L4.out.oc (few L4.out.is).1 (few L4.out.is).2
  have OO := OC3.out.below D9.out
  have l3 := OC3.out.lt
  have lc3 : Oc.Lt (.slice ca3 m2.cs.length co3) cs3 y3.heap.size := LC3.out
  have LO := hide (listsC_tri O3 O4 OO (b0 := w1.heap.size) (s1 := y2.heap.size) (s2 := y3.heap.size) (by have := B3.out.size; have := N1.out; have := N2.out; omega) (by have := N3.out; omega) ⟨fun b hb => by have := l3.1 b hb; have := N1.out; have := N2.out; omega, fun c hc b hb => by have := l3.2 c hc b hb; have := N1.out; have := N2.out; omega⟩ lc3)
  have BW4 := hide (BW3.out.trans (D9.out.mono BW3.out.size))
  have hz1 : w1.heap.size ≤ u4.heap.size := Nat.le_trans B3.out.size D9.out.size
  clear KP t4 D8 L1 L2 L3 L4 L5 L6 L7 O3 O4 OO l3 lc3
  go_wp2_with fail
  refine (apartC_keeps 3 _ 3 w1.heap.size _ _ _ (by omega) (by omega) (by simp; omega) LO.out (by omega)).mono ?_
  rintro E u5 ⟨rfl, o5⟩
  have B9 : Hid (Below w.heap.size w u5) := hide ((BW4.out.alloc BW4.out.size _).trans (o5.below (fun g hg => by
    have hge : w1.heap.size ≤ g := by
      rcases hg with ⟨i, hi, e⟩ | ⟨i, hi, c, hc, e⟩
      · exact (World.ownsRow.lt (LO.out.own i hi) g e).1
      · exact (World.ownsRow.lt (LO.out.ops i hi c hc) g e).1
    exact Nat.le_trans B1.out.size hge) (by have := BW4.out.size; simp; omega)))
  clear o5 LO
  go_wp2
  go_ret
  exact ⟨rfl, B9.out⟩

theorem shipCalls_walk (e r : Int) (v : Value) (rs : List Cw) (k : Int) (w : World) (he : (Lit.int .i64 e).wf = true) (hr : (Lit.int .u8 r).wf = true) (h : IsC w v rs) (hf : FitC rs) (hl : rs.length * 40 ≤ 140737488351232) (hk : (Lit.int .i64 k).wf = true) :
    Calls Try.prog 4 #[.int .i64 e, .int .u8 r, v, .int .i64 k] w fun E w' => E = .returned (.bool true) ∧ Below w.heap.size w w' := by
  have i1 := range_i64 (zs := [e]) (by simpa using he) 0
  have i2 := range_i64 (zs := [k]) (by simpa using hk) 0
  have i3 := range_u8 (zs := [r]) (by simpa using hr) 0
  simp only [List.getElem?_cons_zero, Option.getD_some] at i1 i2 i3
  exact shipCalls_w e r v rs k w ⟨i1.1, by omega⟩ i3.1 (by omega) h hf (by omega) ⟨i2.1, by omega⟩

end Go.Proofs.Ytabfihicdphjeaa
