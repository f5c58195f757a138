/- Proved: any section of orphans is checked, written as bytes and found again as the document says (OrphanCalls). For every section, bytes, epoch and number; no conditions of my own. -/
import Derived.Test.YtkpnkknolobioaaG26
import Derived.Test.YtkpnkknolobioaaG27
import Derived.Test.YtkpnkknolobioaaG14
import Derived.Deep.RegionHeld3
import Derived.Test.YtkpnkknolobioaaRows
import Derived.ProofKit
import Derived.OpenShut
import Derived.ShutString
import Derived.ChangeOld
import Derived.Below
import Derived.SizedLaws
import Derived.Test.YtkpnkknolobioaaG28
/- OrphanCalls: the walk. -/
namespace Go.Proofs.Ytkpnkknolobioaa
open Go.RowKit
set_option linter.unusedVariables false

theorem fit_cvs {r s : List Cw} (h : cvs r = cvs s) (hf : FitC s) : FitC r := fun c hc => by
  obtain ⟨k, hk⟩ := List.getElem?_of_mem hc
  obtain ⟨d, hd, _, _, e⟩ := cvs_at h hk
  rw [e]
  exact hf d (List.mem_of_getElem? hd)

theorem secs_room {l : List Sw} {bs : List Int} (h : Orp.Sn 0 bs (sws l)) (hb : bs.length ≤ 4000) : 8 * l.length ≤ 4000 ∧ ∀ x ∈ l, 4 * x.rs.length ≤ 4000 ∧ ∀ c ∈ x.rs, c.l.length ≤ 8 := by
  have h0 := Orp.ris_all h.1
  obtain ⟨h1, h2⟩ := secs_ge h0
  have h3 := h.2.1.length_le
  rw [sws_len] at h1
  refine ⟨by omega, fun x hx => ?_⟩
  have hm : x.s ∈ sws l := by unfold sws; exact List.mem_map_of_mem hx
  have h4 := h2 x.s hm
  rw [show x.s.cs = cvs x.rs from rfl, cvs_many] at h4
  refine ⟨by omega, fun c hc => ?_⟩
  have := (Orp.chk_zero (h0 x.s hm)).2.2.2.2.2.2.2.2 c.c (by show c.c ∈ cvs x.rs; unfold cvs; exact List.mem_map_of_mem hc)
  exact (cfit_ok this).2.2.2

theorem se_pair {b : Nat} {w : World} {v : Value} {l : List Sw} (h : OwnSe b w v l) : l.Pairwise fun x y => ∀ g, SwB x g → ¬ SwB y g := by
  rw [List.pairwise_iff_getElem]
  intro i j hi hj hij
  exact h.ap i j _ _ hij (List.getElem?_eq_getElem hi) (List.getElem?_eq_getElem hj)

theorem ownG_low {α : Type} {f : α → List Value} {k e base : Nat} {w w' : World} {v : Value} {l : List α} (h : OwnG f k e base w v l) (hb : Below w.heap.size w w') : OwnG f k e base w' v l := row_agree h fun b hq => hb.block b (OwnG.lt h b hq).2

/-- What stays: the box of the section that was handed in, the one that was lent, the lent commits and bytes. -/
structure K0 (w1 W : World) (R2 b3 b4 : Nat) (e f : Int) (vo vl vf : Value) (ru : List Cw) (bs : List Int) : Prop where
  b1 : Below w1.heap.size w1 W
  box : W.heap[R2]? = some (.cells #[.int .i64 e, .int .i64 f, vo] 24 (0, 0))
  ol : OwnR 32 b3 W vl (ru ++ [behC, behC, behC])
  lr : LentR b3 W ru
  bf : Own .u8 5 b4 W vf (bs ++ [201, 202, 203])
  ro : RowC W vo ru

theorem K0.below {w1 W W' : World} {R2 b3 b4 : Nat} {e f : Int} {vo vl vf : Value} {ru : List Cw} {bs : List Int} (h : K0 w1 W R2 b3 b4 e f vo vl vf ru bs) (hb : Below W.heap.size W W') : K0 w1 W' R2 b3 b4 e f vo vl vf ru bs :=
  ⟨h.b1.trans (hb.mono h.b1.size), (hb.block _ (blk_lt h.box)).trans h.box, h.ol.below hb, h.lr.below hb, h.bf.below hb, h.ro.below hb⟩

set_option maxRecDepth 20000 in
set_option maxHeartbeats 16000000 in
theorem orphanCalls_w (e f : Int) (v : Value) (rs : List Cw) (vb : Value) (bs : List Int) (ep nu : Int) (w : World) (h : IsC w v rs) (hf : FitC rs) (hl : rs.length ≤ 140737488355328) (hb : Is .u8 w vb bs) (hlb : bs.length ≤ 140737488355328) :
    Calls Try.prog 4 #[.agg #[.int .i64 e, .int .i64 f, v], vb, .int .i64 ep, .int .i64 nu] w fun E w' => E = .returned (.bool true) ∧ Below w.heap.size w w' := by
  obtain ⟨w1, hw1, sz1, bel1, hB⟩ := blk_step w #[.int .i64 e, .int .i64 f, v] 24
  obtain ⟨va, vk, hv, _, _⟩ := h.1.shape
  obtain ⟨ba, bk, hvb, _, _⟩ := hb.shape
  have IC := hide h
  have IB := hide hb
  have HF := hide hf
  have B1 := hide bel1
  have SML := hide (fun W (hW : Below w.heap.size w W) => osmall_any e f v rs W (h.below hW) hl hf)
  have BX : Hid (w1.heap[w.heap.size]? = some (.cells #[.int .i64 e, .int .i64 f, v] 24 (0, 0))) := hide hB
  unfold cmv at SML
  rw [hv] at hw1 IC BX SML
  rw [hvb] at IB
  subst hv hvb
  clear h hb hf bel1 hB
  have lt1 : w.heap.size < w1.heap.size := by omega
  have RC : Hid (∀ W, Below w1.heap.size w1 W → W.cell? ⟨w.heap.size, 0, none⟩ = some (.int .i64 e) ∧ W.cell? ⟨w.heap.size, 1, none⟩ = some (.int .i64 f) ∧ W.cell? ⟨w.heap.size, 2, none⟩ = some (.slice va rs.length vk)) := hide fun W hW => by
    have hB := (hW.block _ lt1).trans BX.out
    exact ⟨blk_cell hB 0 rfl, blk_cell hB 1 rfl, blk_cell hB 2 rfl⟩
  go_enter Try.func4, Try.ntmps4
  go_wp2_with fail
  refine (lives19_any w1).mono ?_
  rintro E w2 ⟨rfl, bel2⟩
  have B2 := hide bel2
  have B02 := hide (B1.out.trans (bel2.mono B1.out.size))
  obtain ⟨c0, c1, c2⟩ := RC.out w2 bel2
  clear bel2
  go_wp2_with fail
  refine (SML.out w2 B02.out).mono ?_
  rintro E w3 ⟨rfl, bel3⟩
  have B3 := hide (B2.out.trans (bel3.mono B2.out.size))
  have B03 := hide (B02.out.trans (bel3.mono B02.out.size))
  clear SML B2 B02 c0 c1 c2 bel3
  cases hsm : smO rs with
  | false =>
    clear hsm
    go_wp2
    go_ret
    exact ⟨rfl, B03.out⟩
  | true =>
  obtain ⟨ho40, hr40⟩ := smO_yes hsm
  have HO40 := hide ho40
  clear hsm ho40
  by_cases h4 : 4000 < bs.length
  · have q1 : (4000 : Int) < bs.length := by omega
    clear h4
    go_wp2
    go_ret
    exact ⟨rfl, B03.out⟩
  have q1 : ¬ (4000 : Int) < bs.length := by omega
  obtain ⟨c0, c1, c2⟩ := RC.out w3 B3.out
  have LC := hide (lentCs_ap _ rs w3 (IC.out.below B03.out) HF.out (by omega))
  go_wp2_with fail
  refine LC.out.mono ?_
  rintro E w4 ⟨vl, ru, rfl, ownl, eru, lru, apl, bel4⟩
  have B4 := hide (B3.out.trans (bel4.mono B3.out.size))
  have B04 := hide (B03.out.trans (bel4.mono B03.out.size))
  have LB := hide (lent_any _ bs w4 (IB.out.below B04.out) (by omega))
  clear LC c0 c1 c2
  go_wp2_with fail
  refine LB.out.mono ?_
  rintro E w5 ⟨vf, rfl, ownf, bel5⟩
  have B5 := hide (B4.out.trans (bel5.mono B4.out.size))
  have B05 := hide (B04.out.trans (bel5.mono B04.out.size))
  have OL := hide (ownl.below bel5)
  have LR := hide (lru.below bel5)
  have ERU := hide eru
  have APL := hide apl
  have OF := hide ownf
  have W03 : Hid (w.heap.size ≤ w3.heap.size) := hide B03.out.size
  have S35 : Hid (w3.heap.size ≤ w4.heap.size ∧ w4.heap.size ≤ w5.heap.size) := hide ⟨bel4.size, bel5.size⟩
  obtain ⟨c0, c1, c2⟩ := RC.out w5 B5.out
  have hrl : ru.length = rs.length := cvs_len eru
  obtain ⟨vo, hvo, rowo⟩ := OL.out.row.slice_h Try.elemC Try.sizeC rs.length (by rw [List.length_append]; omega)
  rw [← hrl, List.take_left] at rowo
  have ROWO := hide rowo
  obtain ⟨oa, ok, hvo2, _, _⟩ := rowo.shape
  rw [hrl] at hvo2
  obtain ⟨wz, hwz, szz, belz, hz⟩ := blk_step w5 #[.int .i64 0, .int .i64 0, .slice none 0 0] 24
  obtain ⟨z0, z1, z2⟩ := RC.out wz (B5.out.trans (belz.mono B5.out.size))
  obtain ⟨w6, hw6, hw6', sz6, bel6, hb6, k0, k1, k2⟩ := new_step w5 24 (.int .i64 0) (.int .i64 0) (.slice none 0 0) (.int .i64 e) (.int .i64 f) vo
  have B6 := hide (B5.out.trans (bel6.mono B5.out.size))
  obtain ⟨y0, y1, y2⟩ := RC.out w6 B6.out
  have p0 := blk_froz hz 0; have p1 := blk_froz hz 1; have p2 := blk_froz hz 2
  have r0 := blk_cell hz 0 rfl; have r1 := blk_cell hz 1 rfl; have r2 := blk_cell hz 2 rfl
  rw [hvo2] at hw6 hw6' k2 hvo
  rw [hwz] at hw6
  clear B3 B03 B4 B04 LB ownl lru eru apl ownf bel4 bel5 rowo
  go_wp2_with fail
  go_region_held3 (fun W => W.cell? ⟨w.heap.size, 0, none⟩ = some (.int .i64 e) ∧ W.cell? ⟨w.heap.size, 1, none⟩ = some (.int .i64 f) ∧ W.cell? ⟨w.heap.size, 2, none⟩ = some (.slice va rs.length vk)) (first | exact ⟨c0, c1, c2⟩ | exact ⟨z0, z1, z2⟩ | exact ⟨y0, y1, y2⟩ | go_keep) (fail)
  obtain ⟨w7, hw7⟩ : ∃ W, w6.drew = W := ⟨_, rfl⟩
  have bel57 : Below w5.heap.size w5 w7 := by rw [← hw7]; exact bel6.drew
  have VFL : Hid (∀ g, vf.ownBlock = some g → g < w7.heap.size) := hide fun g hg => by have := (OF.out.block g hg).2; have := bel57.size; omega
  have W34 : Hid (w.heap.size ≤ w3.heap.size ∧ w5.heap.size ≤ w7.heap.size) := hide ⟨W03.out, bel57.size⟩
  have K7 : Hid (K0 w1 w7 w5.heap.size w3.heap.size w4.heap.size e f (.slice oa rs.length ok) vl vf ru bs) := hide ⟨B5.out.trans (bel57.mono B5.out.size), by rw [← hw7]; rw [hvo2] at hb6; exact hb6, OL.out.below bel57, LR.out.below bel57, OF.out.below bel57, by
    have := ROWO.out.below bel57
    rw [hvo2] at this
    exact this⟩
  have lt7 : w5.heap.size < w7.heap.size := blk_lt K7.out.box
  have INC : Hid (∀ W, K0 w1 W w5.heap.size w3.heap.size w4.heap.size e f (.slice oa rs.length ok) vl vf ru bs → IsC W (.slice oa rs.length ok) ru) := hide fun W hW => ⟨hW.ro, hW.lr.inC ERU.out (IC.out.2)⟩
  have FRU := hide (fit_cvs ERU.out HF.out)
  have OBX : Hid (∀ W, K0 w1 W w5.heap.size w3.heap.size w4.heap.size e f (.slice oa rs.length ok) vl vf ru bs → (W.cell? ⟨w.heap.size, 0, none⟩ = some (.int .i64 e) ∧ W.cell? ⟨w.heap.size, 1, none⟩ = some (.int .i64 f) ∧ W.cell? ⟨w.heap.size, 2, none⟩ = some (.slice va rs.length vk)) ∧ (W.cell? ⟨w5.heap.size, 0, none⟩ = some (.int .i64 e) ∧ W.cell? ⟨w5.heap.size, 1, none⟩ = some (.int .i64 f) ∧ W.cell? ⟨w5.heap.size, 2, none⟩ = some (.slice oa rs.length ok))) := hide fun W hW => ⟨RC.out W hW.b1, blk_cell hW.box 0 rfl, blk_cell hW.box 1 rfl, blk_cell hW.box 2 rfl⟩
  have B01 := B1
  have hru : ru.length ≤ 40 := by omega
  obtain ⟨s, hs⟩ : ∃ s : Orp.Se, ⟨e, f, cvs rs⟩ = s := ⟨_, rfl⟩
  have hs2 : (⟨e, f, cvs ru⟩ : Orp.Se) = s := by rw [ERU.out]; exact hs
  have ENP : Hid (∀ W, K0 w1 W w5.heap.size w3.heap.size w4.heap.size e f (.slice oa rs.length ok) vl vf ru bs → Calls Try.prog 15 #[.agg #[.int .i64 e, .int .i64 f, .slice oa rs.length ok]] W fun E w' => ∃ vb, E = .returned (.tuple #[vb, .int .i64 (Orp.chk s)]) ∧ Own .u8 5 W.heap.size w' vb (Orp.out s) ∧ Below W.heap.size W w') := hide fun W hW => by
    have := poenc_any e f _ ru W (INC.out W hW) FRU.out (by omega)
    rw [hs2] at this
    exact this
  have ENR : Hid (∀ W, K0 w1 W w5.heap.size w3.heap.size w4.heap.size e f (.slice oa rs.length ok) vl vf ru bs → Calls Try.prog 16 #[.agg #[.int .i64 e, .int .i64 f, .slice va rs.length vk]] W fun E w' => ∃ vb, E = .returned (.tuple #[vb, .int .i64 (Orp.chk s)]) ∧ Own .u8 5 W.heap.size w' vb (Orp.out s) ∧ Below W.heap.size W w') := hide fun W hW => by
    have := oencR_any e f _ rs W (IC.out.below (B01.out.trans (hW.b1.mono B01.out.size))) HF.out (by omega)
    rw [hs] at this
    exact this
  have CKP : Hid (∀ W, K0 w1 W w5.heap.size w3.heap.size w4.heap.size e f (.slice oa rs.length ok) vl vf ru bs → Calls Try.prog 8 #[.agg #[.int .i64 e, .int .i64 f, .slice oa rs.length ok]] W fun E w' => E = .returned (.int .i64 (Orp.chk s)) ∧ Below W.heap.size W w') := hide fun W hW => by
    have := pochk_any e f _ ru W (INC.out W hW) FRU.out (by omega)
    rw [hs2] at this
    exact this
  have CKR : Hid (∀ W, K0 w1 W w5.heap.size w3.heap.size w4.heap.size e f (.slice oa rs.length ok) vl vf ru bs → Calls Try.prog 19 #[.agg #[.int .i64 e, .int .i64 f, .slice va rs.length vk]] W fun E w' => E = .returned (.int .i64 (Orp.chk s)) ∧ Below W.heap.size W w') := hide fun W hW => by
    have := ochkR_any e f _ rs W (IC.out.below (B01.out.trans (hW.b1.mono B01.out.size))) HF.out (by omega)
    rw [hs] at this
    exact this
  have ISB : Hid (∀ W, K0 w1 W w5.heap.size w3.heap.size w4.heap.size e f (.slice oa rs.length ok) vl vf ru bs → Is .u8 W (.slice ba bs.length bk) bs) := hide fun W hW => IB.out.below (B01.out.trans (hW.b1.mono B01.out.size))
  obtain ⟨vs, hvs, _⟩ := K7.out.bf.is.slice_h Try.elemB Try.sizeE bs.length (by rw [List.length_append]; omega)
  have ISF : Hid (∀ W, K0 w1 W w5.heap.size w3.heap.size w4.heap.size e f (.slice oa rs.length ok) vl vf ru bs → Is .u8 W vs bs) := hide fun W hW => by
    obtain ⟨vs', hvs', is'⟩ := hW.bf.is.slice_h Try.elemB Try.sizeE bs.length (by rw [List.length_append]; omega)
    rw [List.take_left] at is'
    have : (Result.ok vs w1 : Result Value) = .ok vs' w1 := (hvs w1).symm.trans (hvs' w1)
    simp only [Result.ok.injEq, and_true] at this
    rw [this]
    exact is'
  obtain ⟨⟨c0', c1', c2'⟩, ⟨o0, o1, o2⟩⟩ := OBX.out w7 K7.out
  rw [hw7]
  clear hvo ROWO hwz szz belz hz hw6 hw6' sz6 bel6 hb6 k0 k1 k2 B6 y0 y1 y2 z0 z1 z2 p0 p1 p2 r0 r1 r2 c0 c1 c2 OL LR OF hw7 bel57 hvo2
  go_wp2_with fail
  refine (ENP.out w7 K7.out).mono ?_
  rintro E w8 ⟨vx, rfl, ownx, bel8⟩
  have K8 := hide (K7.out.below bel8)
  clear c0' c1' c2' o0 o1 o2
  obtain ⟨⟨c0, c1, c2⟩, _⟩ := OBX.out w8 K8.out
  go_wp2_with fail
  refine (ENR.out w8 K8.out).mono ?_
  rintro E w9 ⟨vy, rfl, owny, bel9⟩
  have K9 := hide (K8.out.below bel9)
  clear c0 c1 c2
  obtain ⟨_, ⟨o0, o1, o2⟩⟩ := OBX.out w9 K9.out
  go_wp2_with fail
  refine (ENP.out w9 K9.out).mono ?_
  rintro E wA ⟨vz, rfl, ownz, belA⟩
  have KA := hide (K9.out.below belA)
  have SCP := hide (fun W (hW : K0 w1 W w5.heap.size w3.heap.size w4.heap.size e f (.slice oa rs.length ok) vl vf ru bs) => poscan_any vs bs W (ISF.out W hW) (by omega))
  clear o0 o1 o2 K7
  go_wp2_with fail
  refine (SCP.out wA KA.out).mono ?_
  rintro E wB ⟨v1, l1, n1, rfl, H1⟩
  have belB := H1.out.2.2.2.2
  have KB := hide (KA.out.below belB)
  go_wp2_with fail
  refine (SCP.out wB KB.out).mono ?_
  rintro E wC ⟨v2, l2, n2, rfl, H2⟩
  have belC := H2.out.2.2.2.2
  have KC := hide (KB.out.below belC)
  go_wp2_with fail
  refine (oscanR_any _ bs wC (ISB.out wC KC.out) (by omega)).mono ?_
  rintro E wD ⟨v3, l3, n3, rfl, H3⟩
  have belD := H3.out.2.2.2.2
  have KD := hide (KC.out.below belD)
  have hl12 : sws l1 = sws l2 := Orp.sn_one H1.out.2.2.2.1 H2.out.2.2.2.1
  have hl13 : sws l1 = sws l3 := Orp.sn_one H1.out.2.2.2.1 H3.out.2.2.2.1
  have hn13 : n1 = n3 := by rw [H1.out.2.2.1, H3.out.2.2.1, hl13]
  have OX := hide (((((ownx.below bel9).below belA).below belB).below belC).below belD)
  have OY := hide ((((owny.below belA).below belB).below belC).below belD)
  have OZ := hide (((ownz.below belB).below belC).below belD)
  have L1 := hide ((H1.out.1.below belC).below belD)
  have L2 := hide (H2.out.1.below belD)
  have L3 := hide H3.out.1
  have SN1 := hide H1.out.2.2.2.1
  have FT1 := hide H1.out.2.1
  have FT2 := hide H2.out.2.1
  have FT3 := hide H3.out.2.1
  have HL12 := hide hl12
  have HL13 := hide hl13
  have XLT : Hid ((∀ g, vx.ownBlock = some g → g < w8.heap.size) ∧ w7.heap.size ≤ w8.heap.size ∧ w8.heap.size ≤ w9.heap.size ∧ w9.heap.size ≤ wA.heap.size ∧ wA.heap.size ≤ wB.heap.size ∧ wB.heap.size ≤ wC.heap.size ∧ wC.heap.size ≤ wD.heap.size) := hide ⟨fun g hg => (ownx.block g hg).2, bel8.size, bel9.size, belA.size, belB.size, belC.size, belD.size⟩
  have LT1 : Hid (∀ x ∈ l1, ∀ g, SwB x g → g < wB.heap.size) := hide fun x hx g hg => ((H1.out.1.o x hx).lt g hg).2
  have LV1 : Hid (∀ g, v1.ownBlock = some g → wA.heap.size ≤ g ∧ g < wB.heap.size) := hide fun g hg => World.ownsRow.lt H1.out.1.r g hg
  have BAD := hide ((belB.trans (belC.mono belB.size)).trans (belD.mono (Nat.le_trans belB.size belC.size)))
  have OXA := hide ((ownx.below bel9).below belA)
  have OLE : Hid ((Orp.out s).length ≤ 20000) := hide (by
    have := Orp.out_le s
    have h2 : s.cs.length = rs.length := by rw [← hs]; exact cvs_many rs
    omega)
  have OZA := hide ownz
  obtain ⟨y, hy⟩ : ∃ z, Orp.has (sws l1) ep nu = z := ⟨_, rfl⟩
  have HSP : Hid (∀ W, Below wD.heap.size wD W → Calls Try.prog 11 #[vs, .int .i64 ep, .int .i64 nu] W fun E w' => E = .returned (.bool y) ∧ Below W.heap.size W w') := hide fun W hW => by
    have := pohas_any vs bs ep nu W (ISF.out W (KD.out.below hW)) (by omega) _ SN1.out
    rwa [hy] at this
  have HSR : Hid (∀ W, Below wD.heap.size wD W → Calls Try.prog 22 #[.slice ba bs.length bk, .int .i64 ep, .int .i64 nu] W fun E w' => E = .returned (.bool y) ∧ Below W.heap.size W w') := hide fun W hW => by
    have := ohasR_any _ bs ep nu W (ISB.out W (KD.out.below hW)) (by omega) _ SN1.out
    rwa [hy] at this
  have SBY : Hid (∀ W, Below wD.heap.size wD W → Calls Try.prog 20 #[vx, vy] W fun E w' => E = .returned (.bool true) ∧ Below W.heap.size W w') := hide fun W hW =>
    same_yes vx vy (Orp.out s) (Orp.out s) W (OX.out.is.below hW) (OY.out.is.below hW) (by
      have := Orp.out_le s
      have h2 : s.cs.length = rs.length := by rw [← hs]; exact cvs_many rs
      omega) rfl
  have SSE : Hid (∀ W, Below wD.heap.size wD W → Calls Try.prog 21 #[v1, v3] W fun E w' => E = .returned (.bool true) ∧ Below W.heap.size W w') := hide fun W hW =>
    sameSe_yes v1 v3 l1 l3 W (L1.out.is.below hW) (L3.out.is.below hW) FT1.out FT3.out (by
      have h1 := Orp.secs_len (sws l1)
      have h2 := SN1.out.2.1.length_le
      rw [sws_len] at h1
      omega) HL13.out
  have SK : Hid (∀ W, Below wD.heap.size wD W → (W.cell? ⟨w.heap.size, 0, none⟩ = some (.int .i64 e) ∧ W.cell? ⟨w.heap.size, 1, none⟩ = some (.int .i64 f) ∧ W.cell? ⟨w.heap.size, 2, none⟩ = some (.slice va rs.length vk)) ∧ (W.cell? ⟨w5.heap.size, 0, none⟩ = some (.int .i64 e) ∧ W.cell? ⟨w5.heap.size, 1, none⟩ = some (.int .i64 f) ∧ W.cell? ⟨w5.heap.size, 2, none⟩ = some (.slice oa rs.length ok))) := hide fun W hW => OBX.out W (KD.out.below hW)
  have CP : Hid (∀ W, Below wD.heap.size wD W → Calls Try.prog 8 #[.agg #[.int .i64 e, .int .i64 f, .slice oa rs.length ok]] W fun E w' => E = .returned (.int .i64 (Orp.chk s)) ∧ Below W.heap.size W w') := hide fun W hW => CKP.out W (KD.out.below hW)
  have CR : Hid (∀ W, Below wD.heap.size wD W → Calls Try.prog 19 #[.agg #[.int .i64 e, .int .i64 f, .slice va rs.length vk]] W fun E w' => E = .returned (.int .i64 (Orp.chk s)) ∧ Below W.heap.size W w') := hide fun W hW => CKR.out W (KD.out.below hW)
  obtain ⟨ck, hck⟩ : ∃ z, Orp.chk s = z := ⟨_, rfl⟩
  rw [hck] at CP CR ⊢
  have t1 : (ck != ck) = false := by simp
  have t2 : (y != y) = false := by cases y <;> rfl
  obtain ⟨m1, m2⟩ := SK.out wD (Below.refl _ _)
  have b20 : Below wD.heap.size wD wD := Below.refl _ _
  subst hn13
  clear ENP ENR CKP CKR SCP H1 H2 H3 hl12 hl13 ownx owny ownz bel8 bel9 belA belB belC belD K8 K9 KB KC hy hck hs hs2
  go_wp2_with fail
  go_region_held3 (fun W => (W.cell? ⟨w.heap.size, 0, none⟩ = some (.int .i64 e) ∧ W.cell? ⟨w.heap.size, 1, none⟩ = some (.int .i64 f) ∧ W.cell? ⟨w.heap.size, 2, none⟩ = some (.slice va rs.length vk)) ∧ (W.cell? ⟨w5.heap.size, 0, none⟩ = some (.int .i64 e) ∧ W.cell? ⟨w5.heap.size, 1, none⟩ = some (.int .i64 f) ∧ W.cell? ⟨w5.heap.size, 2, none⟩ = some (.slice oa rs.length ok))) (first | exact ⟨m1, m2⟩ | exact SK.out _ b30 | exact SK.out _ b31 | exact SK.out _ b32 | exact SK.out _ b33 | exact SK.out _ b34 | exact SK.out _ b35 | go_keep)
    (first
    | (go_at_call 8; refine (CP.out _ (by first | exact b31 | exact b20.drew)).mono ?_; rintro E w30 ⟨rfl, c30⟩; have b30 : Below wD.heap.size wD w30 := (by first | exact b31.trans (c30.mono b31.size) | exact b20.drew.trans (c30.mono b20.drew.size)); clear c30)
    | (go_at_call 19; refine (CR.out _ (by first | exact b30 | exact b20.drew)).mono ?_; rintro E w31 ⟨rfl, c31⟩; have b31 : Below wD.heap.size wD w31 := (by first | exact b30.trans (c31.mono b30.size) | exact b20.drew.trans (c31.mono b20.drew.size)); clear c31)
    | (go_at_call 20; refine (SBY.out _ (by first | exact b31 | exact b30)).mono ?_; rintro E w32 ⟨rfl, c32⟩; have b32 : Below wD.heap.size wD w32 := (by first | exact b31.trans (c32.mono b31.size) | exact b30.trans (c32.mono b30.size)); clear c32)
    | (go_at_call 21; refine (SSE.out _ b32).mono ?_; rintro E w33 ⟨rfl, c33⟩; have b33 : Below wD.heap.size wD w33 := b32.trans (c33.mono b32.size); clear c33)
    | (go_at_call 11; refine (HSP.out _ (by first | exact b35 | exact b33)).mono ?_; rintro E w34 ⟨rfl, c34⟩; have b34 : Below wD.heap.size wD w34 := (by first | exact b35.trans (c34.mono b35.size) | exact b33.trans (c34.mono b33.size)); clear c34)
    | (go_at_call 22; refine (HSR.out _ (by first | exact b34 | exact b33)).mono ?_; rintro E w35 ⟨rfl, c35⟩; have b35 : Below wD.heap.size wD w35 := (by first | exact b34.trans (c35.mono b34.size) | exact b33.trans (c35.mono b33.size)); clear c35))
  have BE := hide b35
  have L1E := hide (L1.out.below b35)
  have L2E := hide (L2.out.below b35)
  have BAE := hide (BAD.out.trans (b35.mono BAD.out.size))
  have HC1 : Hid (8 * l1.length ≤ 4000 ∧ ∀ x ∈ l1, 4 * x.rs.length ≤ 4000 ∧ ∀ c ∈ x.rs, c.l.length ≤ 8) := hide (secs_room SN1.out (by omega))
  have HC2 : Hid (8 * l2.length ≤ 4000 ∧ ∀ x ∈ l2, 4 * x.rs.length ≤ 4000 ∧ ∀ c ∈ x.rs, c.l.length ≤ 8) := hide (secs_room (by rw [← HL12.out]; exact SN1.out) (by omega))
  obtain ⟨lst, hlst⟩ : ∃ z, l1 ++ l2 = z := ⟨_, rfl⟩
  have HLST := hide hlst
  have APP : Hid (∀ ty, ∃ v' w', (Builtin.append_ #[41, 41] ty #[v1, v2]).run Try.prog w35 = .ok v' w' ∧ (OwnR 24 wA.heap.size w' v' (swc lst) ∧ w35.grownBy w' v1.ownBlock ∧ ∃ a q, v' = .slice a lst.length q)) := hide fun ty => by
    rw [← hlst]
    obtain ⟨v', w', h1, h2, h3, _⟩ := run_append_coms_at (P := Try.prog) (w := w35) 41 ty 24 wA.heap.size Try.underlying41 Try.info24 v1 (swc l1) L1E.out.r v2 (swc l2) L2E.out.r.row (fun d hd => by
      unfold swc at hd
      obtain ⟨x, hx, rfl⟩ := List.mem_map.1 hd
      obtain ⟨a, k, e, _⟩ := (L2E.out.o x hx).c.row.shape
      show x.v.oneCell' = true
      rw [e]; rfl) (by rw [swc_len, swc_len]; have := HC1.out.1; have := HC2.out.1; omega) BAE.out.size
    refine ⟨v', w', h1, by rw [show swc (l1 ++ l2) = swc l1 ++ swc l2 by simp [swc]]; exact h2, h3, ?_⟩
    obtain ⟨a, q, e, _⟩ := h2.row.shape
    refine ⟨a, q, ?_⟩
    rw [e, List.length_append, swc_len, swc_len, List.length_append]
  clear CP CR SBY SSE HSP HSR SK m1 m2 b20 b30 b31 b32 b33 b34 b35 hlst
  go_wp2_with (at_builtin; refine wpList_append_at rfl (.tmp 129) (.tmp 130) 41 rfl v1 v2 rfl rfl APP.out ?_)
  rintro v5 wF ownF grF aF qF rfl
  have lst0 : Hid (∀ g, v1.ownBlock = some g → wA.heap.size ≤ g) := hide fun g hg => (LV1.out g hg).1
  have BAF := hide (BAE.out.grown grF BAE.out.size lst0.out)
  have KF := hide (KA.out.below BAF.out)
  have OXF := hide (OXA.out.below BAF.out)
  have OZF := hide (OZA.out.below BAF.out)
  have KT := KeepT.of_row L1E.out.r grF
  have SHF : Hid (∀ x ∈ l1 ++ l2, ShS wA.heap.size wF x.v x.rs) := hide fun x hx => by
    rcases List.mem_append.1 hx with hx | hx
    · exact (L1E.out.o x hx).keepT KT (by decide) (by decide)
    · exact ((L2E.out.o x hx).keepT KT (by decide) (by decide)).rebase XLT.out.2.2.2.2.1
  have PAI : Hid ((l1 ++ l2).Pairwise fun x y => ∀ g, SwB x g → ¬ SwB y g) := hide (by
    rw [List.pairwise_append]
    refine ⟨se_pair L1E.out, se_pair L2E.out, fun x hx y hy g hg hq => ?_⟩
    have h1 := LT1.out x hx g hg
    have h2 := ((L2E.out.o y hy).lt g hq).1
    omega)
  have LST : Hid (lst.length ≤ 1000 ∧ ∀ x ∈ lst, x.rs.length ≤ 1000 ∧ ∀ c ∈ x.rs, c.l.length ≤ 1000) := hide (by
    rw [← HLST.out]
    refine ⟨by rw [List.length_append]; have := HC1.out.1; have := HC2.out.1; omega, fun x hx => ?_⟩
    rcases List.mem_append.1 hx with hx | hx
    · obtain ⟨h1, h2⟩ := HC1.out.2 x hx
      exact ⟨by omega, fun c hc => by have := h2 c hc; omega⟩
    · obtain ⟨h1, h2⟩ := HC2.out.2 x hx
      exact ⟨by omega, fun c hc => by have := h2 c hc; omega⟩)
  rw [HLST.out] at SHF PAI
  have ROWF : Hid (∀ k, k < lst.length → ∃ b off, aF = some ⟨b, off, none⟩ ∧ ∃ x xa xk, lst[k]? = some x ∧ x.v = .slice xa x.rs.length xk ∧ Hid (∀ W, Below wF.heap.size wF W → W.cell? ⟨b, off + k * 3, none⟩ = some (.int .i64 x.e) ∧ W.cell? ⟨b, off + k * 3 + 1, none⟩ = some (.int .i64 x.f) ∧ W.cell? ⟨b, off + k * 3 + 2, none⟩ = some (.slice xa x.rs.length xk))) := hide fun k hk => by
    obtain ⟨b, off, cq, h1, _, _, hb, hcell⟩ := ownF.row.full (by rw [swc_len]; omega)
    simp only [Value.slice.injEq] at h1
    obtain ⟨x, hx⟩ : ∃ x, lst[k]? = some x := ⟨lst[k], List.getElem?_eq_getElem hk⟩
    obtain ⟨xa, xk, hxv, _, _⟩ := (SHF.out x (List.mem_of_getElem? hx)).c.row.shape
    obtain ⟨d0, d1, d2⟩ := hcell k x.c (swc_at hx)
    have d2' : wF.cell? ⟨b, off + k * 3 + 2, none⟩ = some x.v := d2
    rw [hxv] at d2'
    exact ⟨b, off, h1.1, x, xa, xk, hx, hxv, hide fun W hW => ⟨(hW.cell (p := ⟨b, off + k * 3, none⟩) hb).trans d0, (hW.cell (p := ⟨b, off + k * 3 + 1, none⟩) hb).trans d1, (hW.cell (p := ⟨b, off + k * 3 + 2, none⟩) hb).trans d2'⟩⟩
  have hL := LST.out.1
  clear ownF grF KT APP L1E L2E BAE BE L1 L2 L3 OX OY OZ KD BAD lst0 HC1 HC2 OXA OZA KA
  go_wp2
  go_loopw [24, 133] (fun av iv wr => ∃ (k : Nat) (aa : Option Addr) (ak : Nat), k ≤ lst.length ∧ iv = .int .i64 k ∧ av = .slice aa k ak ∧ Hid (OwnG one 1 22 wF.heap.size wr (.slice aa k ak) ((lst.map Sw.v).take k)) ∧ Below wF.heap.size wF wr) (fun _ iv _ => lst.length - (intOf iv).toNat)
  case atStart => exact ⟨0, none, 0, by omega, rfl, rfl, hide (OwnG.nil _ _ _ _ _), Below.refl _ _⟩
  case round =>
    obtain ⟨k, aa, ak, hk, rfl, rfl, OA, bel⟩ := hrel
    by_cases hlt : k < lst.length
    · obtain ⟨b, off, haF, x, xa, xk, hx, hxv, CE⟩ := ROWF.out k hlt
      obtain ⟨d0, d1, d2⟩ := CE.out wr bel
      have hlt' : (k : Int) < lst.length := by omega
      have hk0 : (0 : Int) ≤ (k : Int) := by omega
      obtain ⟨V, hV, hV2, szV, belV, bV, g0, g1, g2⟩ := new_step wr 24 (.int .i64 0) (.int .i64 0) (.slice none 0 0) (.int .i64 x.e) (.int .i64 x.f) (.slice xa x.rs.length xk)
      obtain ⟨V2, hV3, szV2, belV2, ownV2⟩ := rows_step one 1 one_len 22 V #[.slice xa x.rs.length xk] 1 [.slice xa x.rs.length xk] rfl rfl (by simp [maxLen])
      have NX : Hid ((lst.map Sw.v).take k ++ [.slice xa x.rs.length xk] = (lst.map Sw.v).take (k + 1)) := hide (by
        obtain ⟨h1, h2⟩ := List.getElem?_eq_some_iff.1 hx
        rw [List.take_succ_eq_append_getElem (by rw [List.length_map]; exact h1), List.getElem_map, h2, ← hxv])
      have OA2 := hide (ownG_low (ownG_low OA.out belV) belV2)
      have bel2 : Below wF.heap.size wF V2 := (bel.trans (belV.mono bel.size)).trans (belV2.mono (Nat.le_trans bel.size belV.size))
      have RX := hide ownV2.row
      have lenA : (((lst.map Sw.v).take k).length + [Value.slice xa x.rs.length xk].length) * 24 ≤ 140737488355328 := by rw [List.length_take, List.length_map]; simp; omega
      subst haF
      clear hx hxv OA belV belV2 bV ownV2 CE szV szV2
      go_wp2_with (at_builtin; refine wpList_append_rows one 1 24 one_len (by decide) (by decide) (.slice none 0 0) rfl rfl (.tmp 137) (.tmp 140) 46 rfl 22 wF.heap.size Try.underlying46 Try.info22 _ _ rfl OA2.out _ _ rfl RX.out (by intro u hu; rw [gcells_one] at hu; rw [List.mem_singleton.1 hu]; rfl) lenA bel2.size ?_)
      intro v8 w8 own8 gr8
      rw [NX.out] at own8
      obtain ⟨a8, q8, hv8, _, _⟩ := own8.row.shape
      rw [List.length_take, List.length_map, Nat.min_eq_left (by omega)] at hv8
      have B8 := bel2.grown gr8 bel2.size fun g hg => (OwnG.lt OA2.out g hg).1
      rw [hv8] at own8
      have O8 := hide own8
      subst hv8
      clear own8 gr8 OA2 bel2 RX lenA NX
      go_wp2
      go_roundw
      case rel => exact ⟨k + 1, a8, q8, by omega, by go_num, rfl, O8, B8⟩
      case measure => simp [intOf]; omega
    · obtain rfl : k = lst.length := by omega
      have hlt' : ¬ (lst.length : Int) < lst.length := by omega
      have OAF : Hid (OwnG one 1 22 wF.heap.size wr (.slice aa lst.length ak) (lst.map Sw.v)) := hide (by
        have := OA.out
        rwa [List.take_of_length_le (by rw [List.length_map]; omega)] at this)
      have KR := hide (KF.out.below bel)
      have SHR : Hid (∀ x ∈ lst, ShS wA.heap.size wr x.v x.rs) := hide fun x hx => (SHF.out x hx).below bel
      have SLT : Hid (∀ x ∈ lst, ∀ g, SwB x g → g < wF.heap.size) := hide fun x hx g hg => ((SHF.out x hx).lt g hg).2
      have BAR := hide (BAF.out.trans (bel.mono BAF.out.size))
      have OXR := hide (OXF.out.below bel)
      have OZR := hide (OZF.out.below bel)
      have SFR : Hid (wA.heap.size ≤ wF.heap.size) := hide BAF.out.size
      obtain ⟨⟨c0, c1, c2⟩, _⟩ := OBX.out wr KR.out
      have KCS := hide (keptCs_yes vl _ ru rs w3.heap.size wr KR.out.ol.row ERU.out KR.out.lr (IC.out.below (B01.out.trans (KR.out.b1.mono B01.out.size))) HF.out (by omega))
      clear OA KF SHF BAF OXF OZF bel ROWF
      go_wp2_with fail
      refine KCS.out.mono ?_
      rintro E wH ⟨rfl, belH⟩
      have KH := hide (KR.out.below belH)
      have OAH := hide (ownG_low OAF.out belH)
      have SHH : Hid (∀ x ∈ lst, ShS wA.heap.size wH x.v x.rs) := hide fun x hx => (SHR.out x hx).below belH
      have BAH := hide (BAR.out.trans (belH.mono BAR.out.size))
      have OXH := hide (OXR.out.below belH)
      have OZH := hide (OZR.out.below belH)
      have KBS := hide (kept_yes vf _ bs _ wH KH.out.bf.is (ISB.out wH KH.out) (by omega) rfl)
      clear KCS KR OAF SHR BAR OXR OZR belH c0 c1 c2
      go_wp2_with fail
      refine KBS.out.mono ?_
      rintro E wI ⟨rfl, belI⟩
      have KI := hide (KH.out.below belI)
      have OAI := hide (ownG_low OAH.out belI)
      have SHI : Hid (∀ x ∈ lst, ShS wA.heap.size wI x.v x.rs) := hide fun x hx => (SHH.out x hx).below belI
      have BAI := hide (BAH.out.trans (belI.mono BAH.out.size))
      have OXI := hide (OXH.out.below belI)
      have OZI := hide (OZH.out.below belI)
      obtain ⟨p1, p2, p3, rfl⟩ := OXI.out.is.form
      obtain ⟨p4, p5, p6, rfl⟩ := OZI.out.is.form
      obtain ⟨p7, p8, p9, rfl⟩ := KI.out.bf.is.form
      have hol : (Orp.out s).length ≤ 1000000 := by have := OLE.out; omega
      have L3 := lists_three (s1 := w7.heap.size) (s2 := w9.heap.size) OXI.out OZI.out KI.out.bf (fun g hg => by have := VFL.out g hg; omega) (fun g hg => by have := XLT.out.1 g hg; have := XLT.out.2.2.1; omega) (by have := S35.out; omega) (by have := XLT.out.2.1; have := XLT.out.2.2.1; omega) (by omega) (by omega) (by rw [List.length_append]; simp; omega)
      obtain ⟨wJ, hwJ, szJ, belJ, _⟩ := blk_step wI #[.slice p1 p2 p3, .slice p4 p5 p6, .slice p7 p8 p9] 25
      rw [hwJ] at L3
      have AB := hide (apart_keeps 3 wI.heap.size 3 w4.heap.size _ _ wJ (by omega) (by omega) (by have := S35.out; have := KI.out.b1.size; have := BAI.out.size; have := XLT.out; omega) L3 (by omega))
      have OAJ := hide (ownG_low OAI.out belJ)
      have SHJ : Hid (∀ x ∈ lst, ShS wA.heap.size wJ x.v x.rs) := hide fun x hx => (SHI.out x hx).below belJ
      have LJ := hide L3
      have BAJ := hide (BAI.out.trans (belJ.mono BAI.out.size))
      have B0J : Hid (Below w.heap.size w wJ) := hide (B01.out.trans ((KI.out.b1.trans (belJ.mono KI.out.b1.size)).mono B01.out.size))
      clear KBS KH OAH SHH BAH OXH OZH belI KI OAI SHI BAI OXI OZI L3 belJ szJ
      go_wp2_with fail
      refine AB.out.mono ?_
      rintro E wK ⟨rfl, belK, keepK⟩
      have KTU : KeepT 5 wJ wK := fun g cs t fr hg ht => by
        refine (keepK g (blk_lt hg) fun i hi e => ?_).trans hg
        obtain ⟨cs', h'⟩ := (LJ.out.own i hi).block_type e
        rw [h'] at hg
        simp at hg
        exact ht hg.2.1.symm
      have OAK := hide (show OwnG one 1 22 wF.heap.size wK (.slice aa lst.length ak) (lst.map Sw.v) from row_keepT OAJ.out KTU (by decide))
      have SHK : Hid (∀ x ∈ lst, ShS wA.heap.size wK x.v x.rs) := hide fun x hx => (SHJ.out x hx).keepT KTU (by decide) (by decide)
      have szK : wJ.heap.size ≤ wK.heap.size := belK.size
      have B0K := hide (B0J.out.trans (belK.mono (by have := S35.out; have := W34.out; omega)))
      have SAK : Hid (wA.heap.size ≤ wK.heap.size ∧ w.heap.size ≤ wA.heap.size) := hide ⟨Nat.le_trans BAJ.out.size szK, by have := XLT.out; have := S35.out; have := W34.out; omega⟩
      clear AB OAJ SHJ LJ keepK KTU belK BAJ B0J
      by_cases hz : lst.length = 0
      · have AN := hide (apartC_none aa ak wK)
        rw [← hz] at AN
        clear hz
        go_wp2_with fail
        refine AN.out.mono ?_
        rintro E wL ⟨rfl, belL⟩
        have BL := hide (B0K.out.trans (belL.mono B0K.out.size))
        clear AN belL
        go_wp2
        go_ret
        exact ⟨rfl, BL.out⟩
      · obtain ⟨bl, hbl⟩ : ∃ bl, aa = some ⟨bl, 0, none⟩ := by
          rcases OAK.out.2 with ⟨h1, _⟩ | ⟨g, cap', cur, h1, _⟩
          · simp only [Value.slice.injEq] at h1
            exact absurd h1.2.1 hz
          · simp only [Value.slice.injEq] at h1
            exact ⟨g, h1.1⟩
        subst hbl
        have hak : lst.length ≤ ak := by
          obtain ⟨a, q, h1, h2, _⟩ := OAK.out.row.shape
          simp only [Value.slice.injEq] at h1
          rw [List.length_map] at h2
          omega
        have LS := lists_secs OAK.out SHK.out SLT.out PAI.out (fun x hx => (LST.out.2 x hx).1) (fun x hx => (LST.out.2 x hx).2)
        have AC := hide (apartC_keeps lst.length bl ak wA.heap.size _ _ wK (by omega) hak SAK.out.1 LS (by omega))
        have OWN : Hid (∀ g, OwnsC lst.length (fun i => (lst.map Sw.v).getD i (.slice none 0 0)) (fun i => (lst.map Sw.rs).getD i []) g → wA.heap.size ≤ g) := hide fun g hg => by
          rcases hg with ⟨i, hi, hg⟩ | ⟨i, hi, c, hc, hg⟩
          · exact (World.ownsRow.lt (LS.own i hi) g hg).1
          · exact (World.ownsRow.lt (LS.ops i hi c hc) g hg).1
        clear LS hz hak
        go_wp2_with fail
        refine AC.out.mono ?_
        rintro E wL ⟨rfl, outL⟩
        have BL := hide (B0K.out.trans (outL.below (fun g hg => by have := OWN.out g hg; have := SAK.out.2; omega) B0K.out.size))
        clear AC outL
        go_wp2
        go_ret
        exact ⟨rfl, BL.out⟩

theorem orphanCalls_walk (x : Sw) (vb : Value) (bs : List Int) (ep nu : Int) (w : World) (h : IsC w x.v x.rs) (hf : FitC x.rs) (hl : x.rs.length * 40 ≤ 140737488351232) (hb : Is .u8 w vb bs) (hlb : bs.length * 1 ≤ 140737488351232) (he : (Lit.int .i64 ep).wf = true) (hn : (Lit.int .i64 nu).wf = true) :
    Calls Try.prog 4 #[.agg #[.int .i64 x.e, .int .i64 x.f, x.v], vb, .int .i64 ep, .int .i64 nu] w fun E w' => E = .returned (.bool true) ∧ Below w.heap.size w w' :=
  orphanCalls_w x.e x.f x.v x.rs vb bs ep nu w h hf (by omega) hb (by omega)

end Go.Proofs.Ytkpnkknolobioaa

/- Proved: OrphanCalls -/
namespace Go.Proofs.Ytkpnkknolobioaa
open Go.ChangeShapes Go.WideShapes Go.ChangeAt Go.RowKit
open Go.ChangeMaps (open_string shut_string)
set_option linter.unusedVariables false

namespace orphanCallsFrame
theorem own : ownKnob Try.prog.godebug = none := by kernel_rfl
theorem laidOut : laidOutB Try.prog = true := by kernel_rfl
theorem bytes5 : Try.prog.bytesOf 5 = 1 := by kernel_rfl
theorem cells24 : Try.prog.cellsOf 24 = 3 := by kernel_rfl
theorem bytes24 : Try.prog.bytesOf 24 = 40 := by kernel_rfl
theorem cells32 : Try.prog.cellsOf 32 = 3 := by kernel_rfl
theorem bytes32 : Try.prog.bytesOf 32 = 40 := by kernel_rfl
theorem cells66 : Try.prog.cellsOf 66 = 3 := by kernel_rfl
theorem bytes66 : Try.prog.bytesOf 66 = 40 := by kernel_rfl

set_option maxRecDepth 100000 in
theorem lifted (os : Os) (started : os.Started) (H : Type) (enc : TypeId × Value → H) :
    ReturnsInHanded {} Try.checked os 4 .any (Rows.orphanCallsSpec.pre6 enc Try.prog Try.f4 Rows.orphanCallsRow.domain false) (Rows.orphanCallsSpec.post enc Try.prog Try.f4 false true false false) := by
  refine returnsInHanded_of_change_sized (C := Try.checked) own started (by kernel_rfl) Try.func4
    (ChangeSpec.witness6 (enc := enc) (C := Try.checked) false ⟨#[], #[.agg #[.int .i64 0, .int .i64 0, .slice none 0 0], .slice none 0 0, .int .i64 0, .int .i64 0], []⟩ 8 (by kernel_rfl) (by kernel_rfl) (by kernel_rfl) (by kernel_rfl)) ?_
  intro W base args ds gs before hval0 hW hcnd hsz0 _
  have hsz : (DataW.weightsEach Try.prog (Try.f4.params.toList ++ Rows.orphanCallsSpec.plain.varTypes Try.prog) (ds ++ gs)).all (· ≤ reachBytes) = true := hsz0
  clear hsz0
  have hval : ∀ (j : Nat) t v, Try.f4.params[j]? = some t → args[j]? = some v → Value.okWide Try.prog W .any base t v := hval0
  have hW' := hW
  obtain ⟨p, q, hA0, hV, rfl, hfz, hnd⟩ := hW
  have hA : DataW.TrodAll enc Try.prog W 0 (fun _ => true) true Try.f4.params.toList args.toList ds p := hA0
  rw [Try.params4] at hA hval hsz
  obtain ⟨v0, vs0, d0, ds0, p0, q0, hargs, rfl, rfl, h0, r0⟩ := trodAll_cons hA
  obtain ⟨v1, vs1, d1, ds1, p1, q1, rfl, rfl, rfl, h1, r1⟩ := trodAll_cons r0
  obtain ⟨v2, vs2, d2, ds2, p2, q2, rfl, rfl, rfl, h2, r2⟩ := trodAll_cons r1
  obtain ⟨v3, vs3, d3, ds3, p3, q3, rfl, rfl, rfl, h3, r3⟩ := trodAll_cons r2
  obtain ⟨rfl, rfl, rfl⟩ := trodAll_nil r3
  obtain rfl : args = #[v0, v1, v2, v3] := by cases args; simp_all
  obtain ⟨rfl, rfl⟩ := trodVars_none hV
  have k0 := h0
  have lt0 : ∀ x ∈ p0, x.block < W.heap.size := by obtain ⟨m, hm⟩ := k0; exact DataW.trod_lt m _ _ _ hm
  have ww0 : ∀ n ∈ d0.weights Try.prog 24, n ≤ reachBytes := fun n hn => of_decide_eq_true (List.all_eq_true.1 hsz n (DataW.weights_mem_each (j := 0) (t := 24) rfl rfl n hn))
  obtain ⟨z0, rfl, w0, g0, b0⟩ := open_section Try.underlying24 (by kernel_rfl) cells24 Try.underlying3 Try.underlying3 Try.underlying22 Try.underlying32 (by kernel_rfl) cells32 bytes32 Try.underlying3 Try.underlying3 Try.underlying30 Try.underlying66 (by kernel_rfl) cells66 bytes66 Try.underlying4 Try.underlying9 Try.underlying9 (hval 0 24 v0 rfl rfl) h0 ww0
  obtain ⟨a1, len1, cap1, rfl⟩ := okWide_slice Try.underlying25 (hval 1 25 v1 rfl rfl)
  have k1 := h1
  have lt1 : ∀ x ∈ p1, x.block < W.heap.size := by obtain ⟨m, hm⟩ := k1; exact DataW.trod_lt m _ _ _ hm
  obtain ⟨z1, w1, b1⟩ : ∃ zs, Is .u8 W (.slice a1 len1 cap1) zs ∧ zs.length * 1 ≤ 140737488351232 := by
    obtain ⟨fuel, hf⟩ := h1
    rcases open_ints Try.underlying25 Try.underlying5 (by kernel_rfl) hf with ⟨hcs, _⟩ | ⟨x, l, c, zs, hcs, _, hl, hm, hz, hx, hcell, hwz⟩
    · simp [Value.cells] at hcs
      obtain ⟨rfl, rfl, rfl⟩ := hcs
      exact ⟨[], Is.nil _ _, by simp⟩
    · simp [Value.cells] at hcs
      obtain ⟨rfl, rfl, rfl⟩ := hcs
      have hd : d1 = _ := (Prod.mk.inj hx).1
      have hzl : zs.length = cap1 := by simpa using hz
      have hlen : (zs.take len1).length = len1 := by rw [List.length_take]; omega
      refine ⟨zs.take len1, ⟨fun z hz => hwz z (List.mem_of_mem_take hz), .inr ⟨x, cap1, by rw [hlen], by omega, hm, fun j hj => ?_⟩⟩, ?_⟩
      · rw [hlen] at hj
        rw [hcell j (by omega)]
        simp [List.getD, hj]
      · rw [hd] at hsz
        have := sized_slice hsz (j := 1) (t := 25) (e := 5) rfl rfl Try.underlying25
        rw [bytes5] at this
        simp only [lits, List.length_map, List.length_take, List.length_drop, reachBytes] at this
        rw [hlen]
        omega
  obtain ⟨a2, rfl, rfl, rfl, w2⟩ := open_int Try.underlying3 (hval 2 3 v2 rfl rfl) h2
  obtain ⟨a3, rfl, rfl, rfl, w3⟩ := open_int Try.underlying3 (hval 3 3 v3 rfl rfl) h3
  clear hA0 hval0
  refine (orphanCalls_walk z0 _ z1 a2 a3 W w0 g0 b0 w1 b1 w2 w3).mono fun e W' ⟨he, bel⟩ => ?_
  subst he
  exact ⟨_, rfl, _, _, _, [], _, [], hW', trodAll_mk1 (shut_bool Try.underlying4 _), (trodAll_cons_mk (Below.trod laidOut (by kernel_rfl) (of_decide_eq_true (by kernel_rfl)) k0 bel lt0) (trodAll_cons_mk (Below.trod laidOut (by kernel_rfl) (of_decide_eq_true (by kernel_rfl)) k1 bel lt1) (trodAll_cons_mk (shut_int Try.underlying3 w2) (trodAll_cons_mk (shut_int Try.underlying3 w3) trodAll_mk0)))), rfl, bel.frame _, fun h => by cases h⟩

theorem over : Rows.orphanCallsRow.holds Try.pinned (OpenSpec.ofChange Rows.orphanCallsSpec) :=
  OpenClaim.holds_of_wide 4 Try.f4 rfl rfl rfl rfl rfl rfl rfl ⟨rfl, rfl, rfl, rfl, rfl⟩ rfl rfl rfl rfl rfl (by kernel_rfl) Try.func4 (by kernel_rfl)
    (of_decide_eq_true (by kernel_rfl)) (by unfold Func.isWrapper; first | (rw [if_pos (by decide +kernel)]; kernel_rfl) | (rw [if_neg (by decide +kernel)]; exact ⟨rfl, rfl⟩))
    (fun os started H enc _ => lifted os started H enc)
end orphanCallsFrame

/-- The statement. -/
theorem orphanCalls_holds : Rows.OrphanCallsSaid := orphanCallsFrame.over
#print axioms orphanCalls_holds
end Go.Proofs.Ytkpnkknolobioaa
