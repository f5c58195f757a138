/- Package script (layer 25): the reader's act, over the program, kind by kind. -/
import Derived.Test.YtdlogcdpapknaaaGreatDoorZK
namespace Go.Proofs.YtdlogcdpapknaaaGreatDoor
open Go.RowKit
set_option linter.unusedVariables false
set_option maxRecDepth 100000

theorem own_kg {e base g : Nat} {w w' : World} {v : Value} {l : List Bm.Ov} (h : OwnO e base w v l) (hg : w.grownBy w' (some g)) (hb : g < base) : OwnO e base w' v l := by
  refine h.kept hg ?_
  cases hv : v.ownBlock with
  | none => exact .inl rfl
  | some b =>
    refine .inr fun e => ?_
    have := h.block b hv
    simp at e
    omega

theorem headD_len {l : List ByteArray} (h : ∀ s ∈ l, s.size ≤ 65536) : (l.headD ⟨#[]⟩).data.toList.length ≤ 65536 := by
  cases l with
  | nil => decide
  | cons s r => have := h s (by simp); rw [Lib.size_eq] at this; exact this

/-- What the reader's act gives back. -/
def ARet (w0 w : World) (g : Nat) (ws : List ByteArray) (E : Ending) (w' : World) : Prop := ∃ a v ws' bad', E = .returned (acv a v) ∧ OwnO 77 w.heap.size w' v a.ops ∧ ActP ws a ws' bad' ∧ Rd w0 w' g ws' bad' ∧ w.grownBy w' (some g)

/-- Six cells of an act. -/
structure Sx (w : World) (g : Nat) (a b c d e f : Value) : Prop where
  c0 : w.cell? ⟨g, 0, none⟩ = some a
  c1 : w.cell? ⟨g, 1, none⟩ = some b
  c2 : w.cell? ⟨g, 2, none⟩ = some c
  c3 : w.cell? ⟨g, 3, none⟩ = some d
  c4 : w.cell? ⟨g, 4, none⟩ = some e
  c5 : w.cell? ⟨g, 5, none⟩ = some f
theorem sx_of {w : World} {g : Nat} {t : TypeId} {fr : Nat × Nat} {a b c d e f : Value} (h : w.heap[g]? = some (.cells #[a, b, c, d, e, f] t fr)) : Sx w g a b c d e f :=
  ⟨blk_cell h 0 rfl, blk_cell h 1 rfl, blk_cell h 2 rfl, blk_cell h 3 rfl, blk_cell h 4 rfl, blk_cell h 5 rfl⟩
theorem putx {V : World} {R : Nat} {t : TypeId} {x0 x1 x2 x3 x4 x5 : Value} (hR : V.heap[R]? = some (.cells #[x0, x1, x2, x3, x4, x5] t (0, 0))) (a b c d e f : Value) :
    ∃ V', (((((V.setCell ⟨R, 0, none⟩ a).setCell ⟨R, 1, none⟩ b).setCell ⟨R, 2, none⟩ c).setCell ⟨R, 3, none⟩ d).setCell ⟨R, 4, none⟩ e).setCell ⟨R, 5, none⟩ f = V' ∧ V.grownBy V' (some R) ∧
      Sx V R x0 x1 x2 x3 x4 x5 ∧ (∀ j, V.frozen? ⟨R, j, none⟩ = false) ∧ Sx V' R a b c d e f := by
  have h := set_cells (set_cells (set_cells (set_cells (set_cells (set_cells hR 0 a) 1 b) 2 c) 3 d) 4 e) 5 f
  refine ⟨_, rfl, ?_, sx_of hR, blk_froz hR, sx_of h⟩
  exact grown_trans (grown_trans (grown_trans (grown_trans (grown_trans (grown_setCell V ⟨R, 0, none⟩ a) (grown_setCell _ ⟨R, 1, none⟩ b)) (grown_setCell _ ⟨R, 2, none⟩ c)) (grown_setCell _ ⟨R, 3, none⟩ d)) (grown_setCell _ ⟨R, 4, none⟩ e)) (grown_setCell _ ⟨R, 5, none⟩ f)

set_option maxHeartbeats 4000000 in
theorem ract_0 (w0 w : World) (g : Nat) (ws : List ByteArray) (hv : Vs w0) (hz : ∀ s ∈ ws, s.size ≤ 65536) (hl : ws.length ≤ 65536) (hne : ws ≠ []) (hk : kd (ws.headD ⟨#[]⟩).data.toList = 0) (h : Rd w0 w g ws false) :
    Calls Tryz.prog 24 #[.pointer (some ⟨g, 0, none⟩)] w (ARet w0 w g ws) := by
  obtain ⟨W, hW, szW, belW, rb⟩ := blk_step w #[.int .i64 0, .int .i64 0, .int .i64 0, .int .i64 0, .string ⟨#[]⟩, .slice none 0 0] 24
  have hgl := h.lt
  have hw0 := h.bel.size
  have hW1 := hide (rword_any w0 W g ws false (h.below belW))
  have HZ := hide hz
  have HK := hide hk
  have HE := hide hne
  have hb1 : (false || ws.isEmpty) = false := by
    cases ws with
    | nil => exact absurd rfl hne
    | cons a r => rfl
  rw [hb1] at hW1
  obtain ⟨s, hs⟩ : ∃ s, ws.headD ⟨#[]⟩ = s := ⟨_, rfl⟩
  rw [hs] at hW1 hk
  have hlt1 : ws.tail.length ≤ 65536 := by rw [List.length_tail]; omega
  have hz1 : ∀ s ∈ ws.tail, s.size ≤ 65536 := fun s hs => hz s (List.mem_of_mem_tail hs)
  have G0 := grown_of_below belW (some g)
  clear h hz hne hs hb1 belW
  go_enter Tryz.func24, Tryz.ntmps24
  go_wp2_with fail
  refine hW1.out.mono ?_
  rintro E w1 ⟨rfl, R1, G1⟩
  have g1 := G1.size
  replace rb := (G1.block w.heap.size (by omega) (by simp; omega)).trans rb
  replace G0 := grown_trans G0 G1
  have N1 := (hv.below R1.bel).nms
  clear hW1
  go_wp2_with fail
  refine (kindOf_any s w1 N1).mono ?_
  rintro E wx ⟨rfl, rfl⟩
  rw [hk]
  obtain ⟨w2, hw2, s2, b2, ab⟩ := blk_step w1 #[.int .i64 0, .int .i64 0, .int .i64 0, .int .i64 0, .string ⟨#[]⟩, .slice none 0 0] 24
  replace rb := (b2.block w.heap.size (by omega)).trans rb
  have R2 := R1.below b2
  replace G0 := grown_trans G0 (grown_of_below b2 _)
  have a0 := blk_cell ab 0 rfl; have a1 := blk_cell ab 1 rfl; have a2 := blk_cell ab 2 rfl; have a3 := blk_cell ab 3 rfl; have a4 := blk_cell ab 4 rfl; have a5 := blk_cell ab 5 rfl
  have p0 := blk_froz ab 0; have p1 := blk_froz ab 1; have p2 := blk_froz ab 2; have p3 := blk_froz ab 3; have p4 := blk_froz ab 4; have p5 := blk_froz ab 5
  have x0 := set_same ab (j := 0) (u := .int .i64 0) rfl; have x1 := set_same ab (j := 1) (u := .int .i64 0) rfl; have x2 := set_same ab (j := 2) (u := .int .i64 0) rfl
  have x3 := set_same ab (j := 3) (u := .int .i64 0) rfl; have x4 := set_same ab (j := 4) (u := .string ⟨#[]⟩) rfl; have x5 := set_same ab (j := 5) (u := .slice none 0 0) rfl
  clear R1 N1 G1
  go_wp2_with fail
  refine (shapeOf_any 0 w2 (by omega)).mono ?_
  rintro E w3 ⟨rfl, b3⟩
  rw [show shV 0 = .agg #[.int .i64 0, .int .i64 0, .int .i64 0, .bool false, .bool false] by rfl]
  obtain ⟨w4, hw4, s4, b4, sb⟩ := blk_step w3 #[.int .i64 0, .int .i64 0, .int .i64 0, .bool false, .bool false] 89
  have b24 := b3.trans (b4.mono b3.size)
  have g3 := b3.size
  replace rb := (b24.block w.heap.size (by omega)).trans rb
  replace ab := (b24.block w1.heap.size (by omega)).trans ab
  have R4 := R2.below b24
  replace G0 := grown_trans G0 (grown_of_below b24 _)
  have d0 := blk_cell sb 0 rfl; have d1 := blk_cell sb 1 rfl; have d2 := blk_cell sb 2 rfl; have d3 := blk_cell sb 3 rfl; have d4 := blk_cell sb 4 rfl
  clear R2 b2 b3 b4 b24 a0 a1 a2 a3 a4 a5 p0 p1 p2 p3 p4 p5 x0 x1 x2 x3 x4 x5
  have p0 := blk_froz sb 0; have p1 := blk_froz sb 1; have p2 := blk_froz sb 2; have p3 := blk_froz sb 3; have p4 := blk_froz sb 4
  have x0 := set_same sb (j := 0) (u := .int .i64 0) rfl; have x1 := set_same sb (j := 1) (u := .int .i64 0) rfl; have x2 := set_same sb (j := 2) (u := .int .i64 0) rfl; have x3 := set_same sb (j := 3) (u := .bool false) rfl; have x4 := set_same sb (j := 4) (u := .bool false) rfl
  have A6 := sx_of ab
  obtain ⟨A0, A1, A2, A3, A4, A5⟩ := A6
  obtain ⟨V', hV', gV, ⟨o0, o1, o2, o3, o4, o5⟩, fr, ⟨z0, z1, z2, z3, z4, z5⟩⟩ := putx rb (.int .i64 0) (.int .i64 0) (.int .i64 0) (.int .i64 0) (.string ⟨#[]⟩) (.slice none 0 0)
  have fr0 := fr 0; have fr1 := fr 1; have fr2 := fr 2; have fr3 := fr 3; have fr4 := fr 4; have fr5 := fr 5
  have T := hide (show ARet w0 w g ws (.returned (acv ⟨0, 0, 0, 0, ⟨#[]⟩, []⟩ (.slice none 0 0))) V' from ⟨_, _, _, _, rfl, OwnO.nil _ _ _, actP_0 HE.out HK.out, R4.grown gV hw0 (by omega), grown_fresh G0 gV (Nat.le_refl _)⟩)
  unfold acv acc at T
  clear G0 gV rb ab sb R4
  go_wp2
  refine bodyPost_ret (v := .agg #[.int .i64 0, .int .i64 0, .int .i64 0, .int .i64 0, .string ⟨#[]⟩, .slice none 0 0]) (by simp [results, Tryz.results24, go_sem, z0, z1, z2, z3, z4, z5]) rfl ?_
  exact T.out

set_option maxHeartbeats 4000000 in
theorem ract_1 (w0 w : World) (g : Nat) (ws : List ByteArray) (hv : Vs w0) (hz : ∀ s ∈ ws, s.size ≤ 65536) (hl : ws.length ≤ 65536) (hne : ws ≠ []) (hk : kd (ws.headD ⟨#[]⟩).data.toList = 1) (h : Rd w0 w g ws false) :
    Calls Tryz.prog 24 #[.pointer (some ⟨g, 0, none⟩)] w (ARet w0 w g ws) := by
  obtain ⟨W, hW, szW, belW, rb⟩ := blk_step w #[.int .i64 0, .int .i64 0, .int .i64 0, .int .i64 0, .string ⟨#[]⟩, .slice none 0 0] 24
  have hgl := h.lt
  have hw0 := h.bel.size
  have hW1 := hide (rword_any w0 W g ws false (h.below belW))
  have HZ := hide hz
  have HK := hide hk
  have HE := hide hne
  have hb1 : (false || ws.isEmpty) = false := by
    cases ws with
    | nil => exact absurd rfl hne
    | cons a r => rfl
  rw [hb1] at hW1
  obtain ⟨s, hs⟩ : ∃ s, ws.headD ⟨#[]⟩ = s := ⟨_, rfl⟩
  rw [hs] at hW1 hk
  have hlt1 : ws.tail.length ≤ 65536 := by rw [List.length_tail]; omega
  have hz1 : ∀ s ∈ ws.tail, s.size ≤ 65536 := fun s hs => hz s (List.mem_of_mem_tail hs)
  have G0 := grown_of_below belW (some g)
  clear h hz hne hs hb1 belW
  go_enter Tryz.func24, Tryz.ntmps24
  go_wp2_with fail
  refine hW1.out.mono ?_
  rintro E w1 ⟨rfl, R1, G1⟩
  have g1 := G1.size
  replace rb := (G1.block w.heap.size (by omega) (by simp; omega)).trans rb
  replace G0 := grown_trans G0 G1
  have N1 := (hv.below R1.bel).nms
  clear hW1
  go_wp2_with fail
  refine (kindOf_any s w1 N1).mono ?_
  rintro E wx ⟨rfl, rfl⟩
  rw [hk]
  obtain ⟨w2, hw2, s2, b2, ab⟩ := blk_step w1 #[.int .i64 1, .int .i64 0, .int .i64 0, .int .i64 0, .string ⟨#[]⟩, .slice none 0 0] 24
  replace rb := (b2.block w.heap.size (by omega)).trans rb
  have R2 := R1.below b2
  replace G0 := grown_trans G0 (grown_of_below b2 _)
  have a0 := blk_cell ab 0 rfl; have a1 := blk_cell ab 1 rfl; have a2 := blk_cell ab 2 rfl; have a3 := blk_cell ab 3 rfl; have a4 := blk_cell ab 4 rfl; have a5 := blk_cell ab 5 rfl
  have p0 := blk_froz ab 0; have p1 := blk_froz ab 1; have p2 := blk_froz ab 2; have p3 := blk_froz ab 3; have p4 := blk_froz ab 4; have p5 := blk_froz ab 5
  have x0 := set_same ab (j := 0) (u := .int .i64 1) rfl; have x1 := set_same ab (j := 1) (u := .int .i64 0) rfl; have x2 := set_same ab (j := 2) (u := .int .i64 0) rfl
  have x3 := set_same ab (j := 3) (u := .int .i64 0) rfl; have x4 := set_same ab (j := 4) (u := .string ⟨#[]⟩) rfl; have x5 := set_same ab (j := 5) (u := .slice none 0 0) rfl
  clear R1 N1 G1
  go_wp2_with fail
  refine (shapeOf_any 1 w2 (by omega)).mono ?_
  rintro E w3 ⟨rfl, b3⟩
  rw [show shV 1 = .agg #[.int .i64 1, .int .i64 0, .int .i64 0, .bool false, .bool true] by rfl]
  obtain ⟨w4, hw4, s4, b4, sb⟩ := blk_step w3 #[.int .i64 1, .int .i64 0, .int .i64 0, .bool false, .bool true] 89
  have b24 := b3.trans (b4.mono b3.size)
  have g3 := b3.size
  replace rb := (b24.block w.heap.size (by omega)).trans rb
  replace ab := (b24.block w1.heap.size (by omega)).trans ab
  have R4 := R2.below b24
  replace G0 := grown_trans G0 (grown_of_below b24 _)
  have d0 := blk_cell sb 0 rfl; have d1 := blk_cell sb 1 rfl; have d2 := blk_cell sb 2 rfl; have d3 := blk_cell sb 3 rfl; have d4 := blk_cell sb 4 rfl
  clear R2 b2 b3 b4 b24 a0 a1 a2 a3 a4 a5 p0 p1 p2 p3 p4 p5 x0 x1 x2 x3 x4 x5
  have p0 := blk_froz sb 0; have p1 := blk_froz sb 1; have p2 := blk_froz sb 2; have p3 := blk_froz sb 3; have p4 := blk_froz sb 4
  have x0 := set_same sb (j := 0) (u := .int .i64 1) rfl; have x1 := set_same sb (j := 1) (u := .int .i64 0) rfl; have x2 := set_same sb (j := 2) (u := .int .i64 0) rfl; have x3 := set_same sb (j := 3) (u := .bool false) rfl; have x4 := set_same sb (j := 4) (u := .bool true) rfl
  go_wp2_with fail
  refine (rnum_any w0 w4 g _ _ hv hz1 R4).mono ?_
  rintro E w5 ⟨xu, ok5, rfl, N5, R5, G5⟩
  have P5 := hide (numS_of (bad := false) N5)
  obtain ⟨b5, hb5⟩ : ∃ b, (false || ws.tail.isEmpty || !ok5) = b := ⟨_, rfl⟩
  rw [hb5] at R5 P5
  clear hb5
  replace rb := (G5.block w.heap.size (by omega) (by simp; omega)).trans rb
  replace ab := (G5.block w1.heap.size (by omega) (by simp; omega)).trans ab
  replace sb := (G5.block w3.heap.size (by omega) (by simp; omega)).trans sb
  replace G0 := grown_trans G0 G5
  have g5 := G5.size
  have e5 := blk_cell ab 1 rfl
  have f5 := blk_froz ab 1
  obtain ⟨v5, hv5⟩ : ∃ V, w5.setCell ⟨w1.heap.size, 1, none⟩ (.int .i64 xu) = V := ⟨_, rfl⟩
  have k5 : w5.grownBy v5 (some w1.heap.size) := by rw [← hv5]; exact grown_setCell _ _ _
  replace ab := set_cells ab 1 (.int .i64 xu)
  rw [hv5] at ab
  replace rb := (k5.block w.heap.size (by omega) (by simp; omega)).trans rb
  replace sb := (k5.block w3.heap.size (by omega) (by simp; omega)).trans sb
  have Q5 := R5.grown k5 (by omega) (by omega)
  have q5 := k5.size
  replace G0 := grown_fresh G0 k5 (by omega)
  have d0 := blk_cell sb 0 rfl; have d1 := blk_cell sb 1 rfl; have d2 := blk_cell sb 2 rfl; have d3 := blk_cell sb 3 rfl; have d4 := blk_cell sb 4 rfl
  have hz5 : ∀ s ∈ ws.tail.tail, s.size ≤ 65536 := fun s hs => hz1 s (List.mem_of_mem_tail hs)
  clear R5 G5 k5 N5 R4
  go_wp2_with fail
  refine (rops_any w0 v5 g _ _ hz5 (by simp only [List.length_tail]; omega) Q5).mono ?_
  rintro E w6 ⟨ov, xo, ws6, b6, rfl, O6, N6, R6, G6⟩
  have P6 := hide N6
  obtain ⟨oa, oc, hov, _, _⟩ := O6.is.shape
  subst hov
  replace rb := (G6.block w.heap.size (by omega) (by simp; omega)).trans rb
  replace ab := (G6.block w1.heap.size (by omega) (by simp; omega)).trans ab
  replace sb := (G6.block w3.heap.size (by omega) (by simp; omega)).trans sb
  replace G0 := grown_trans G0 G6
  have g6 := G6.size
  have e6 := blk_cell ab 5 rfl
  have f6 := blk_froz ab 5
  obtain ⟨v6, hv6⟩ : ∃ V, w6.setCell ⟨w1.heap.size, 5, none⟩ (.slice oa xo.length oc) = V := ⟨_, rfl⟩
  have k6 : w6.grownBy v6 (some w1.heap.size) := by rw [← hv6]; exact grown_setCell _ _ _
  replace ab := set_cells ab 5 (.slice oa xo.length oc)
  rw [hv6] at ab
  replace rb := (k6.block w.heap.size (by omega) (by simp; omega)).trans rb
  replace sb := (k6.block w3.heap.size (by omega) (by simp; omega)).trans sb
  have Q6 := R6.grown k6 (by omega) (by omega)
  have q6 := k6.size
  replace G0 := grown_fresh G0 k6 (by omega)
  replace O6 := own_kg O6 k6 (by omega)
  have d0 := blk_cell sb 0 rfl; have d1 := blk_cell sb 1 rfl; have d2 := blk_cell sb 2 rfl; have d3 := blk_cell sb 3 rfl; have d4 := blk_cell sb 4 rfl
  clear R6 G6 k6 N6 Q5
  have A6 := sx_of ab
  obtain ⟨A0, A1, A2, A3, A4, A5⟩ := A6
  obtain ⟨V', hV', gV, ⟨o0, o1, o2, o3, o4, o5⟩, fr, ⟨z0, z1, z2, z3, z4, z5⟩⟩ := putx rb (.int .i64 1) (.int .i64 xu) (.int .i64 0) (.int .i64 0) (.string ⟨#[]⟩) (.slice oa xo.length oc)
  have fr0 := fr 0; have fr1 := fr 1; have fr2 := fr 2; have fr3 := fr 3; have fr4 := fr 4; have fr5 := fr 5
  have T := hide (show ARet w0 w g ws (.returned (acv ⟨1, xu, 0, 0, ⟨#[]⟩, xo⟩ (.slice oa xo.length oc))) V' from ⟨_, _, _, _, rfl, (own_kg O6 gV (by omega)).rebase (by omega), actP_1 HE.out HK.out P5.out P6.out (by simp only [List.length_tail]; omega), Q6.grown gV hw0 (by omega), grown_fresh G0 gV (Nat.le_refl _)⟩)
  unfold acv acc at T
  clear G0 gV rb ab sb Q6 O6
  go_wp2
  refine bodyPost_ret (v := .agg #[.int .i64 1, .int .i64 xu, .int .i64 0, .int .i64 0, .string ⟨#[]⟩, .slice oa xo.length oc]) (by simp [results, Tryz.results24, go_sem, z0, z1, z2, z3, z4, z5]) rfl ?_
  exact T.out

set_option maxHeartbeats 4000000 in
theorem ract_2 (w0 w : World) (g : Nat) (ws : List ByteArray) (hv : Vs w0) (hz : ∀ s ∈ ws, s.size ≤ 65536) (hl : ws.length ≤ 65536) (hne : ws ≠ []) (hk : kd (ws.headD ⟨#[]⟩).data.toList = 2) (h : Rd w0 w g ws false) :
    Calls Tryz.prog 24 #[.pointer (some ⟨g, 0, none⟩)] w (ARet w0 w g ws) := by
  obtain ⟨W, hW, szW, belW, rb⟩ := blk_step w #[.int .i64 0, .int .i64 0, .int .i64 0, .int .i64 0, .string ⟨#[]⟩, .slice none 0 0] 24
  have hgl := h.lt
  have hw0 := h.bel.size
  have hW1 := hide (rword_any w0 W g ws false (h.below belW))
  have HZ := hide hz
  have HK := hide hk
  have HE := hide hne
  have hb1 : (false || ws.isEmpty) = false := by
    cases ws with
    | nil => exact absurd rfl hne
    | cons a r => rfl
  rw [hb1] at hW1
  obtain ⟨s, hs⟩ : ∃ s, ws.headD ⟨#[]⟩ = s := ⟨_, rfl⟩
  rw [hs] at hW1 hk
  have hlt1 : ws.tail.length ≤ 65536 := by rw [List.length_tail]; omega
  have hz1 : ∀ s ∈ ws.tail, s.size ≤ 65536 := fun s hs => hz s (List.mem_of_mem_tail hs)
  have G0 := grown_of_below belW (some g)
  clear h hz hne hs hb1 belW
  go_enter Tryz.func24, Tryz.ntmps24
  go_wp2_with fail
  refine hW1.out.mono ?_
  rintro E w1 ⟨rfl, R1, G1⟩
  have g1 := G1.size
  replace rb := (G1.block w.heap.size (by omega) (by simp; omega)).trans rb
  replace G0 := grown_trans G0 G1
  have N1 := (hv.below R1.bel).nms
  clear hW1
  go_wp2_with fail
  refine (kindOf_any s w1 N1).mono ?_
  rintro E wx ⟨rfl, rfl⟩
  rw [hk]
  obtain ⟨w2, hw2, s2, b2, ab⟩ := blk_step w1 #[.int .i64 2, .int .i64 0, .int .i64 0, .int .i64 0, .string ⟨#[]⟩, .slice none 0 0] 24
  replace rb := (b2.block w.heap.size (by omega)).trans rb
  have R2 := R1.below b2
  replace G0 := grown_trans G0 (grown_of_below b2 _)
  have a0 := blk_cell ab 0 rfl; have a1 := blk_cell ab 1 rfl; have a2 := blk_cell ab 2 rfl; have a3 := blk_cell ab 3 rfl; have a4 := blk_cell ab 4 rfl; have a5 := blk_cell ab 5 rfl
  have p0 := blk_froz ab 0; have p1 := blk_froz ab 1; have p2 := blk_froz ab 2; have p3 := blk_froz ab 3; have p4 := blk_froz ab 4; have p5 := blk_froz ab 5
  have x0 := set_same ab (j := 0) (u := .int .i64 2) rfl; have x1 := set_same ab (j := 1) (u := .int .i64 0) rfl; have x2 := set_same ab (j := 2) (u := .int .i64 0) rfl
  have x3 := set_same ab (j := 3) (u := .int .i64 0) rfl; have x4 := set_same ab (j := 4) (u := .string ⟨#[]⟩) rfl; have x5 := set_same ab (j := 5) (u := .slice none 0 0) rfl
  clear R1 N1 G1
  go_wp2_with fail
  refine (shapeOf_any 2 w2 (by omega)).mono ?_
  rintro E w3 ⟨rfl, b3⟩
  rw [show shV 2 = .agg #[.int .i64 1, .int .i64 0, .int .i64 0, .bool true, .bool false] by rfl]
  obtain ⟨w4, hw4, s4, b4, sb⟩ := blk_step w3 #[.int .i64 1, .int .i64 0, .int .i64 0, .bool true, .bool false] 89
  have b24 := b3.trans (b4.mono b3.size)
  have g3 := b3.size
  replace rb := (b24.block w.heap.size (by omega)).trans rb
  replace ab := (b24.block w1.heap.size (by omega)).trans ab
  have R4 := R2.below b24
  replace G0 := grown_trans G0 (grown_of_below b24 _)
  have d0 := blk_cell sb 0 rfl; have d1 := blk_cell sb 1 rfl; have d2 := blk_cell sb 2 rfl; have d3 := blk_cell sb 3 rfl; have d4 := blk_cell sb 4 rfl
  clear R2 b2 b3 b4 b24 a0 a1 a2 a3 a4 a5 p0 p1 p2 p3 p4 p5 x0 x1 x2 x3 x4 x5
  have p0 := blk_froz sb 0; have p1 := blk_froz sb 1; have p2 := blk_froz sb 2; have p3 := blk_froz sb 3; have p4 := blk_froz sb 4
  have x0 := set_same sb (j := 0) (u := .int .i64 1) rfl; have x1 := set_same sb (j := 1) (u := .int .i64 0) rfl; have x2 := set_same sb (j := 2) (u := .int .i64 0) rfl; have x3 := set_same sb (j := 3) (u := .bool true) rfl; have x4 := set_same sb (j := 4) (u := .bool false) rfl
  go_wp2_with fail
  refine (rnum_any w0 w4 g _ _ hv hz1 R4).mono ?_
  rintro E w5 ⟨xu, ok5, rfl, N5, R5, G5⟩
  have P5 := hide (numS_of (bad := false) N5)
  obtain ⟨b5, hb5⟩ : ∃ b, (false || ws.tail.isEmpty || !ok5) = b := ⟨_, rfl⟩
  rw [hb5] at R5 P5
  clear hb5
  replace rb := (G5.block w.heap.size (by omega) (by simp; omega)).trans rb
  replace ab := (G5.block w1.heap.size (by omega) (by simp; omega)).trans ab
  replace sb := (G5.block w3.heap.size (by omega) (by simp; omega)).trans sb
  replace G0 := grown_trans G0 G5
  have g5 := G5.size
  have e5 := blk_cell ab 1 rfl
  have f5 := blk_froz ab 1
  obtain ⟨v5, hv5⟩ : ∃ V, w5.setCell ⟨w1.heap.size, 1, none⟩ (.int .i64 xu) = V := ⟨_, rfl⟩
  have k5 : w5.grownBy v5 (some w1.heap.size) := by rw [← hv5]; exact grown_setCell _ _ _
  replace ab := set_cells ab 1 (.int .i64 xu)
  rw [hv5] at ab
  replace rb := (k5.block w.heap.size (by omega) (by simp; omega)).trans rb
  replace sb := (k5.block w3.heap.size (by omega) (by simp; omega)).trans sb
  have Q5 := R5.grown k5 (by omega) (by omega)
  have q5 := k5.size
  replace G0 := grown_fresh G0 k5 (by omega)
  have d0 := blk_cell sb 0 rfl; have d1 := blk_cell sb 1 rfl; have d2 := blk_cell sb 2 rfl; have d3 := blk_cell sb 3 rfl; have d4 := blk_cell sb 4 rfl
  have hz5 : ∀ s ∈ ws.tail.tail, s.size ≤ 65536 := fun s hs => hz1 s (List.mem_of_mem_tail hs)
  clear R5 G5 k5 N5 R4
  go_wp2_with fail
  refine (rbyts_any w0 v5 g _ _ hz5 Q5).mono ?_
  rintro E w6 ⟨xk, ok6, rfl, N6, R6, G6⟩
  have P6 := hide (bytS_of (bad := b5) N6)
  have ZK := byt_size N6 (headD_len hz5)
  obtain ⟨b6, hb6⟩ : ∃ b, (b5 || ws.tail.tail.isEmpty || !ok6) = b := ⟨_, rfl⟩
  rw [hb6] at R6 P6
  clear hb6
  replace rb := (G6.block w.heap.size (by omega) (by simp; omega)).trans rb
  replace ab := (G6.block w1.heap.size (by omega) (by simp; omega)).trans ab
  replace sb := (G6.block w3.heap.size (by omega) (by simp; omega)).trans sb
  replace G0 := grown_trans G0 G6
  have g6 := G6.size
  have e6 := blk_cell ab 4 rfl
  have f6 := blk_froz ab 4
  obtain ⟨v6, hv6⟩ : ∃ V, w6.setCell ⟨w1.heap.size, 4, none⟩ (.string xk) = V := ⟨_, rfl⟩
  have k6 : w6.grownBy v6 (some w1.heap.size) := by rw [← hv6]; exact grown_setCell _ _ _
  replace ab := set_cells ab 4 (.string xk)
  rw [hv6] at ab
  replace rb := (k6.block w.heap.size (by omega) (by simp; omega)).trans rb
  replace sb := (k6.block w3.heap.size (by omega) (by simp; omega)).trans sb
  have Q6 := R6.grown k6 (by omega) (by omega)
  have q6 := k6.size
  replace G0 := grown_fresh G0 k6 (by omega)
  have d0 := blk_cell sb 0 rfl; have d1 := blk_cell sb 1 rfl; have d2 := blk_cell sb 2 rfl; have d3 := blk_cell sb 3 rfl; have d4 := blk_cell sb 4 rfl
  clear R6 G6 k6 N6 Q5
  have A6 := sx_of ab
  obtain ⟨A0, A1, A2, A3, A4, A5⟩ := A6
  obtain ⟨V', hV', gV, ⟨o0, o1, o2, o3, o4, o5⟩, fr, ⟨z0, z1, z2, z3, z4, z5⟩⟩ := putx rb (.int .i64 2) (.int .i64 xu) (.int .i64 0) (.int .i64 0) (.string xk) (.slice none 0 0)
  have fr0 := fr 0; have fr1 := fr 1; have fr2 := fr 2; have fr3 := fr 3; have fr4 := fr 4; have fr5 := fr 5
  have T := hide (show ARet w0 w g ws (.returned (acv ⟨2, xu, 0, 0, xk, []⟩ (.slice none 0 0))) V' from ⟨_, _, _, _, rfl, OwnO.nil _ _ _, actP_2 HE.out HK.out P5.out P6.out ZK, Q6.grown gV hw0 (by omega), grown_fresh G0 gV (Nat.le_refl _)⟩)
  unfold acv acc at T
  clear G0 gV rb ab sb Q6
  go_wp2
  refine bodyPost_ret (v := .agg #[.int .i64 2, .int .i64 xu, .int .i64 0, .int .i64 0, .string xk, .slice none 0 0]) (by simp [results, Tryz.results24, go_sem, z0, z1, z2, z3, z4, z5]) rfl ?_
  exact T.out

set_option maxHeartbeats 4000000 in
theorem ract_3 (w0 w : World) (g : Nat) (ws : List ByteArray) (hv : Vs w0) (hz : ∀ s ∈ ws, s.size ≤ 65536) (hl : ws.length ≤ 65536) (hne : ws ≠ []) (hk : kd (ws.headD ⟨#[]⟩).data.toList = 3) (h : Rd w0 w g ws false) :
    Calls Tryz.prog 24 #[.pointer (some ⟨g, 0, none⟩)] w (ARet w0 w g ws) := by
  obtain ⟨W, hW, szW, belW, rb⟩ := blk_step w #[.int .i64 0, .int .i64 0, .int .i64 0, .int .i64 0, .string ⟨#[]⟩, .slice none 0 0] 24
  have hgl := h.lt
  have hw0 := h.bel.size
  have hW1 := hide (rword_any w0 W g ws false (h.below belW))
  have HZ := hide hz
  have HK := hide hk
  have HE := hide hne
  have hb1 : (false || ws.isEmpty) = false := by
    cases ws with
    | nil => exact absurd rfl hne
    | cons a r => rfl
  rw [hb1] at hW1
  obtain ⟨s, hs⟩ : ∃ s, ws.headD ⟨#[]⟩ = s := ⟨_, rfl⟩
  rw [hs] at hW1 hk
  have hlt1 : ws.tail.length ≤ 65536 := by rw [List.length_tail]; omega
  have hz1 : ∀ s ∈ ws.tail, s.size ≤ 65536 := fun s hs => hz s (List.mem_of_mem_tail hs)
  have G0 := grown_of_below belW (some g)
  clear h hz hne hs hb1 belW
  go_enter Tryz.func24, Tryz.ntmps24
  go_wp2_with fail
  refine hW1.out.mono ?_
  rintro E w1 ⟨rfl, R1, G1⟩
  have g1 := G1.size
  replace rb := (G1.block w.heap.size (by omega) (by simp; omega)).trans rb
  replace G0 := grown_trans G0 G1
  have N1 := (hv.below R1.bel).nms
  clear hW1
  go_wp2_with fail
  refine (kindOf_any s w1 N1).mono ?_
  rintro E wx ⟨rfl, rfl⟩
  rw [hk]
  obtain ⟨w2, hw2, s2, b2, ab⟩ := blk_step w1 #[.int .i64 3, .int .i64 0, .int .i64 0, .int .i64 0, .string ⟨#[]⟩, .slice none 0 0] 24
  replace rb := (b2.block w.heap.size (by omega)).trans rb
  have R2 := R1.below b2
  replace G0 := grown_trans G0 (grown_of_below b2 _)
  have a0 := blk_cell ab 0 rfl; have a1 := blk_cell ab 1 rfl; have a2 := blk_cell ab 2 rfl; have a3 := blk_cell ab 3 rfl; have a4 := blk_cell ab 4 rfl; have a5 := blk_cell ab 5 rfl
  have p0 := blk_froz ab 0; have p1 := blk_froz ab 1; have p2 := blk_froz ab 2; have p3 := blk_froz ab 3; have p4 := blk_froz ab 4; have p5 := blk_froz ab 5
  have x0 := set_same ab (j := 0) (u := .int .i64 3) rfl; have x1 := set_same ab (j := 1) (u := .int .i64 0) rfl; have x2 := set_same ab (j := 2) (u := .int .i64 0) rfl
  have x3 := set_same ab (j := 3) (u := .int .i64 0) rfl; have x4 := set_same ab (j := 4) (u := .string ⟨#[]⟩) rfl; have x5 := set_same ab (j := 5) (u := .slice none 0 0) rfl
  clear R1 N1 G1
  go_wp2_with fail
  refine (shapeOf_any 3 w2 (by omega)).mono ?_
  rintro E w3 ⟨rfl, b3⟩
  rw [show shV 3 = .agg #[.int .i64 1, .int .i64 0, .int .i64 0, .bool false, .bool false] by rfl]
  obtain ⟨w4, hw4, s4, b4, sb⟩ := blk_step w3 #[.int .i64 1, .int .i64 0, .int .i64 0, .bool false, .bool false] 89
  have b24 := b3.trans (b4.mono b3.size)
  have g3 := b3.size
  replace rb := (b24.block w.heap.size (by omega)).trans rb
  replace ab := (b24.block w1.heap.size (by omega)).trans ab
  have R4 := R2.below b24
  replace G0 := grown_trans G0 (grown_of_below b24 _)
  have d0 := blk_cell sb 0 rfl; have d1 := blk_cell sb 1 rfl; have d2 := blk_cell sb 2 rfl; have d3 := blk_cell sb 3 rfl; have d4 := blk_cell sb 4 rfl
  clear R2 b2 b3 b4 b24 a0 a1 a2 a3 a4 a5 p0 p1 p2 p3 p4 p5 x0 x1 x2 x3 x4 x5
  have p0 := blk_froz sb 0; have p1 := blk_froz sb 1; have p2 := blk_froz sb 2; have p3 := blk_froz sb 3; have p4 := blk_froz sb 4
  have x0 := set_same sb (j := 0) (u := .int .i64 1) rfl; have x1 := set_same sb (j := 1) (u := .int .i64 0) rfl; have x2 := set_same sb (j := 2) (u := .int .i64 0) rfl; have x3 := set_same sb (j := 3) (u := .bool false) rfl; have x4 := set_same sb (j := 4) (u := .bool false) rfl
  go_wp2_with fail
  refine (rnum_any w0 w4 g _ _ hv hz1 R4).mono ?_
  rintro E w5 ⟨xu, ok5, rfl, N5, R5, G5⟩
  have P5 := hide (numS_of (bad := false) N5)
  obtain ⟨b5, hb5⟩ : ∃ b, (false || ws.tail.isEmpty || !ok5) = b := ⟨_, rfl⟩
  rw [hb5] at R5 P5
  clear hb5
  replace rb := (G5.block w.heap.size (by omega) (by simp; omega)).trans rb
  replace ab := (G5.block w1.heap.size (by omega) (by simp; omega)).trans ab
  replace sb := (G5.block w3.heap.size (by omega) (by simp; omega)).trans sb
  replace G0 := grown_trans G0 G5
  have g5 := G5.size
  have e5 := blk_cell ab 1 rfl
  have f5 := blk_froz ab 1
  obtain ⟨v5, hv5⟩ : ∃ V, w5.setCell ⟨w1.heap.size, 1, none⟩ (.int .i64 xu) = V := ⟨_, rfl⟩
  have k5 : w5.grownBy v5 (some w1.heap.size) := by rw [← hv5]; exact grown_setCell _ _ _
  replace ab := set_cells ab 1 (.int .i64 xu)
  rw [hv5] at ab
  replace rb := (k5.block w.heap.size (by omega) (by simp; omega)).trans rb
  replace sb := (k5.block w3.heap.size (by omega) (by simp; omega)).trans sb
  have Q5 := R5.grown k5 (by omega) (by omega)
  have q5 := k5.size
  replace G0 := grown_fresh G0 k5 (by omega)
  have d0 := blk_cell sb 0 rfl; have d1 := blk_cell sb 1 rfl; have d2 := blk_cell sb 2 rfl; have d3 := blk_cell sb 3 rfl; have d4 := blk_cell sb 4 rfl
  clear R5 G5 k5 N5 R4
  have A6 := sx_of ab
  obtain ⟨A0, A1, A2, A3, A4, A5⟩ := A6
  obtain ⟨V', hV', gV, ⟨o0, o1, o2, o3, o4, o5⟩, fr, ⟨z0, z1, z2, z3, z4, z5⟩⟩ := putx rb (.int .i64 3) (.int .i64 xu) (.int .i64 0) (.int .i64 0) (.string ⟨#[]⟩) (.slice none 0 0)
  have fr0 := fr 0; have fr1 := fr 1; have fr2 := fr 2; have fr3 := fr 3; have fr4 := fr 4; have fr5 := fr 5
  have T := hide (show ARet w0 w g ws (.returned (acv ⟨3, xu, 0, 0, ⟨#[]⟩, []⟩ (.slice none 0 0))) V' from ⟨_, _, _, _, rfl, OwnO.nil _ _ _, actP_3 HE.out HK.out P5.out, Q5.grown gV hw0 (by omega), grown_fresh G0 gV (Nat.le_refl _)⟩)
  unfold acv acc at T
  clear G0 gV rb ab sb Q5
  go_wp2
  refine bodyPost_ret (v := .agg #[.int .i64 3, .int .i64 xu, .int .i64 0, .int .i64 0, .string ⟨#[]⟩, .slice none 0 0]) (by simp [results, Tryz.results24, go_sem, z0, z1, z2, z3, z4, z5]) rfl ?_
  exact T.out

set_option maxHeartbeats 4000000 in
theorem ract_4 (w0 w : World) (g : Nat) (ws : List ByteArray) (hv : Vs w0) (hz : ∀ s ∈ ws, s.size ≤ 65536) (hl : ws.length ≤ 65536) (hne : ws ≠ []) (hk : kd (ws.headD ⟨#[]⟩).data.toList = 4) (h : Rd w0 w g ws false) :
    Calls Tryz.prog 24 #[.pointer (some ⟨g, 0, none⟩)] w (ARet w0 w g ws) := by
  obtain ⟨W, hW, szW, belW, rb⟩ := blk_step w #[.int .i64 0, .int .i64 0, .int .i64 0, .int .i64 0, .string ⟨#[]⟩, .slice none 0 0] 24
  have hgl := h.lt
  have hw0 := h.bel.size
  have hW1 := hide (rword_any w0 W g ws false (h.below belW))
  have HZ := hide hz
  have HK := hide hk
  have HE := hide hne
  have hb1 : (false || ws.isEmpty) = false := by
    cases ws with
    | nil => exact absurd rfl hne
    | cons a r => rfl
  rw [hb1] at hW1
  obtain ⟨s, hs⟩ : ∃ s, ws.headD ⟨#[]⟩ = s := ⟨_, rfl⟩
  rw [hs] at hW1 hk
  have hlt1 : ws.tail.length ≤ 65536 := by rw [List.length_tail]; omega
  have hz1 : ∀ s ∈ ws.tail, s.size ≤ 65536 := fun s hs => hz s (List.mem_of_mem_tail hs)
  have G0 := grown_of_below belW (some g)
  clear h hz hne hs hb1 belW
  go_enter Tryz.func24, Tryz.ntmps24
  go_wp2_with fail
  refine hW1.out.mono ?_
  rintro E w1 ⟨rfl, R1, G1⟩
  have g1 := G1.size
  replace rb := (G1.block w.heap.size (by omega) (by simp; omega)).trans rb
  replace G0 := grown_trans G0 G1
  have N1 := (hv.below R1.bel).nms
  clear hW1
  go_wp2_with fail
  refine (kindOf_any s w1 N1).mono ?_
  rintro E wx ⟨rfl, rfl⟩
  rw [hk]
  obtain ⟨w2, hw2, s2, b2, ab⟩ := blk_step w1 #[.int .i64 4, .int .i64 0, .int .i64 0, .int .i64 0, .string ⟨#[]⟩, .slice none 0 0] 24
  replace rb := (b2.block w.heap.size (by omega)).trans rb
  have R2 := R1.below b2
  replace G0 := grown_trans G0 (grown_of_below b2 _)
  have a0 := blk_cell ab 0 rfl; have a1 := blk_cell ab 1 rfl; have a2 := blk_cell ab 2 rfl; have a3 := blk_cell ab 3 rfl; have a4 := blk_cell ab 4 rfl; have a5 := blk_cell ab 5 rfl
  have p0 := blk_froz ab 0; have p1 := blk_froz ab 1; have p2 := blk_froz ab 2; have p3 := blk_froz ab 3; have p4 := blk_froz ab 4; have p5 := blk_froz ab 5
  have x0 := set_same ab (j := 0) (u := .int .i64 4) rfl; have x1 := set_same ab (j := 1) (u := .int .i64 0) rfl; have x2 := set_same ab (j := 2) (u := .int .i64 0) rfl
  have x3 := set_same ab (j := 3) (u := .int .i64 0) rfl; have x4 := set_same ab (j := 4) (u := .string ⟨#[]⟩) rfl; have x5 := set_same ab (j := 5) (u := .slice none 0 0) rfl
  clear R1 N1 G1
  go_wp2_with fail
  refine (shapeOf_any 4 w2 (by omega)).mono ?_
  rintro E w3 ⟨rfl, b3⟩
  rw [show shV 4 = .agg #[.int .i64 1, .int .i64 0, .int .i64 0, .bool false, .bool false] by rfl]
  obtain ⟨w4, hw4, s4, b4, sb⟩ := blk_step w3 #[.int .i64 1, .int .i64 0, .int .i64 0, .bool false, .bool false] 89
  have b24 := b3.trans (b4.mono b3.size)
  have g3 := b3.size
  replace rb := (b24.block w.heap.size (by omega)).trans rb
  replace ab := (b24.block w1.heap.size (by omega)).trans ab
  have R4 := R2.below b24
  replace G0 := grown_trans G0 (grown_of_below b24 _)
  have d0 := blk_cell sb 0 rfl; have d1 := blk_cell sb 1 rfl; have d2 := blk_cell sb 2 rfl; have d3 := blk_cell sb 3 rfl; have d4 := blk_cell sb 4 rfl
  clear R2 b2 b3 b4 b24 a0 a1 a2 a3 a4 a5 p0 p1 p2 p3 p4 p5 x0 x1 x2 x3 x4 x5
  have p0 := blk_froz sb 0; have p1 := blk_froz sb 1; have p2 := blk_froz sb 2; have p3 := blk_froz sb 3; have p4 := blk_froz sb 4
  have x0 := set_same sb (j := 0) (u := .int .i64 1) rfl; have x1 := set_same sb (j := 1) (u := .int .i64 0) rfl; have x2 := set_same sb (j := 2) (u := .int .i64 0) rfl; have x3 := set_same sb (j := 3) (u := .bool false) rfl; have x4 := set_same sb (j := 4) (u := .bool false) rfl
  go_wp2_with fail
  refine (rnum_any w0 w4 g _ _ hv hz1 R4).mono ?_
  rintro E w5 ⟨xu, ok5, rfl, N5, R5, G5⟩
  have P5 := hide (numS_of (bad := false) N5)
  obtain ⟨b5, hb5⟩ : ∃ b, (false || ws.tail.isEmpty || !ok5) = b := ⟨_, rfl⟩
  rw [hb5] at R5 P5
  clear hb5
  replace rb := (G5.block w.heap.size (by omega) (by simp; omega)).trans rb
  replace ab := (G5.block w1.heap.size (by omega) (by simp; omega)).trans ab
  replace sb := (G5.block w3.heap.size (by omega) (by simp; omega)).trans sb
  replace G0 := grown_trans G0 G5
  have g5 := G5.size
  have e5 := blk_cell ab 1 rfl
  have f5 := blk_froz ab 1
  obtain ⟨v5, hv5⟩ : ∃ V, w5.setCell ⟨w1.heap.size, 1, none⟩ (.int .i64 xu) = V := ⟨_, rfl⟩
  have k5 : w5.grownBy v5 (some w1.heap.size) := by rw [← hv5]; exact grown_setCell _ _ _
  replace ab := set_cells ab 1 (.int .i64 xu)
  rw [hv5] at ab
  replace rb := (k5.block w.heap.size (by omega) (by simp; omega)).trans rb
  replace sb := (k5.block w3.heap.size (by omega) (by simp; omega)).trans sb
  have Q5 := R5.grown k5 (by omega) (by omega)
  have q5 := k5.size
  replace G0 := grown_fresh G0 k5 (by omega)
  have d0 := blk_cell sb 0 rfl; have d1 := blk_cell sb 1 rfl; have d2 := blk_cell sb 2 rfl; have d3 := blk_cell sb 3 rfl; have d4 := blk_cell sb 4 rfl
  clear R5 G5 k5 N5 R4
  have A6 := sx_of ab
  obtain ⟨A0, A1, A2, A3, A4, A5⟩ := A6
  obtain ⟨V', hV', gV, ⟨o0, o1, o2, o3, o4, o5⟩, fr, ⟨z0, z1, z2, z3, z4, z5⟩⟩ := putx rb (.int .i64 4) (.int .i64 xu) (.int .i64 0) (.int .i64 0) (.string ⟨#[]⟩) (.slice none 0 0)
  have fr0 := fr 0; have fr1 := fr 1; have fr2 := fr 2; have fr3 := fr 3; have fr4 := fr 4; have fr5 := fr 5
  have T := hide (show ARet w0 w g ws (.returned (acv ⟨4, xu, 0, 0, ⟨#[]⟩, []⟩ (.slice none 0 0))) V' from ⟨_, _, _, _, rfl, OwnO.nil _ _ _, actP_4 HE.out HK.out P5.out, Q5.grown gV hw0 (by omega), grown_fresh G0 gV (Nat.le_refl _)⟩)
  unfold acv acc at T
  clear G0 gV rb ab sb Q5
  go_wp2
  refine bodyPost_ret (v := .agg #[.int .i64 4, .int .i64 xu, .int .i64 0, .int .i64 0, .string ⟨#[]⟩, .slice none 0 0]) (by simp [results, Tryz.results24, go_sem, z0, z1, z2, z3, z4, z5]) rfl ?_
  exact T.out

set_option maxHeartbeats 4000000 in
theorem ract_5 (w0 w : World) (g : Nat) (ws : List ByteArray) (hv : Vs w0) (hz : ∀ s ∈ ws, s.size ≤ 65536) (hl : ws.length ≤ 65536) (hne : ws ≠ []) (hk : kd (ws.headD ⟨#[]⟩).data.toList = 5) (h : Rd w0 w g ws false) :
    Calls Tryz.prog 24 #[.pointer (some ⟨g, 0, none⟩)] w (ARet w0 w g ws) := by
  obtain ⟨W, hW, szW, belW, rb⟩ := blk_step w #[.int .i64 0, .int .i64 0, .int .i64 0, .int .i64 0, .string ⟨#[]⟩, .slice none 0 0] 24
  have hgl := h.lt
  have hw0 := h.bel.size
  have hW1 := hide (rword_any w0 W g ws false (h.below belW))
  have HZ := hide hz
  have HK := hide hk
  have HE := hide hne
  have hb1 : (false || ws.isEmpty) = false := by
    cases ws with
    | nil => exact absurd rfl hne
    | cons a r => rfl
  rw [hb1] at hW1
  obtain ⟨s, hs⟩ : ∃ s, ws.headD ⟨#[]⟩ = s := ⟨_, rfl⟩
  rw [hs] at hW1 hk
  have hlt1 : ws.tail.length ≤ 65536 := by rw [List.length_tail]; omega
  have hz1 : ∀ s ∈ ws.tail, s.size ≤ 65536 := fun s hs => hz s (List.mem_of_mem_tail hs)
  have G0 := grown_of_below belW (some g)
  clear h hz hne hs hb1 belW
  go_enter Tryz.func24, Tryz.ntmps24
  go_wp2_with fail
  refine hW1.out.mono ?_
  rintro E w1 ⟨rfl, R1, G1⟩
  have g1 := G1.size
  replace rb := (G1.block w.heap.size (by omega) (by simp; omega)).trans rb
  replace G0 := grown_trans G0 G1
  have N1 := (hv.below R1.bel).nms
  clear hW1
  go_wp2_with fail
  refine (kindOf_any s w1 N1).mono ?_
  rintro E wx ⟨rfl, rfl⟩
  rw [hk]
  obtain ⟨w2, hw2, s2, b2, ab⟩ := blk_step w1 #[.int .i64 5, .int .i64 0, .int .i64 0, .int .i64 0, .string ⟨#[]⟩, .slice none 0 0] 24
  replace rb := (b2.block w.heap.size (by omega)).trans rb
  have R2 := R1.below b2
  replace G0 := grown_trans G0 (grown_of_below b2 _)
  have a0 := blk_cell ab 0 rfl; have a1 := blk_cell ab 1 rfl; have a2 := blk_cell ab 2 rfl; have a3 := blk_cell ab 3 rfl; have a4 := blk_cell ab 4 rfl; have a5 := blk_cell ab 5 rfl
  have p0 := blk_froz ab 0; have p1 := blk_froz ab 1; have p2 := blk_froz ab 2; have p3 := blk_froz ab 3; have p4 := blk_froz ab 4; have p5 := blk_froz ab 5
  have x0 := set_same ab (j := 0) (u := .int .i64 5) rfl; have x1 := set_same ab (j := 1) (u := .int .i64 0) rfl; have x2 := set_same ab (j := 2) (u := .int .i64 0) rfl
  have x3 := set_same ab (j := 3) (u := .int .i64 0) rfl; have x4 := set_same ab (j := 4) (u := .string ⟨#[]⟩) rfl; have x5 := set_same ab (j := 5) (u := .slice none 0 0) rfl
  clear R1 N1 G1
  go_wp2_with fail
  refine (shapeOf_any 5 w2 (by omega)).mono ?_
  rintro E w3 ⟨rfl, b3⟩
  rw [show shV 5 = .agg #[.int .i64 1, .int .i64 0, .int .i64 0, .bool false, .bool false] by rfl]
  obtain ⟨w4, hw4, s4, b4, sb⟩ := blk_step w3 #[.int .i64 1, .int .i64 0, .int .i64 0, .bool false, .bool false] 89
  have b24 := b3.trans (b4.mono b3.size)
  have g3 := b3.size
  replace rb := (b24.block w.heap.size (by omega)).trans rb
  replace ab := (b24.block w1.heap.size (by omega)).trans ab
  have R4 := R2.below b24
  replace G0 := grown_trans G0 (grown_of_below b24 _)
  have d0 := blk_cell sb 0 rfl; have d1 := blk_cell sb 1 rfl; have d2 := blk_cell sb 2 rfl; have d3 := blk_cell sb 3 rfl; have d4 := blk_cell sb 4 rfl
  clear R2 b2 b3 b4 b24 a0 a1 a2 a3 a4 a5 p0 p1 p2 p3 p4 p5 x0 x1 x2 x3 x4 x5
  have p0 := blk_froz sb 0; have p1 := blk_froz sb 1; have p2 := blk_froz sb 2; have p3 := blk_froz sb 3; have p4 := blk_froz sb 4
  have x0 := set_same sb (j := 0) (u := .int .i64 1) rfl; have x1 := set_same sb (j := 1) (u := .int .i64 0) rfl; have x2 := set_same sb (j := 2) (u := .int .i64 0) rfl; have x3 := set_same sb (j := 3) (u := .bool false) rfl; have x4 := set_same sb (j := 4) (u := .bool false) rfl
  go_wp2_with fail
  refine (rnum_any w0 w4 g _ _ hv hz1 R4).mono ?_
  rintro E w5 ⟨xu, ok5, rfl, N5, R5, G5⟩
  have P5 := hide (numS_of (bad := false) N5)
  obtain ⟨b5, hb5⟩ : ∃ b, (false || ws.tail.isEmpty || !ok5) = b := ⟨_, rfl⟩
  rw [hb5] at R5 P5
  clear hb5
  replace rb := (G5.block w.heap.size (by omega) (by simp; omega)).trans rb
  replace ab := (G5.block w1.heap.size (by omega) (by simp; omega)).trans ab
  replace sb := (G5.block w3.heap.size (by omega) (by simp; omega)).trans sb
  replace G0 := grown_trans G0 G5
  have g5 := G5.size
  have e5 := blk_cell ab 1 rfl
  have f5 := blk_froz ab 1
  obtain ⟨v5, hv5⟩ : ∃ V, w5.setCell ⟨w1.heap.size, 1, none⟩ (.int .i64 xu) = V := ⟨_, rfl⟩
  have k5 : w5.grownBy v5 (some w1.heap.size) := by rw [← hv5]; exact grown_setCell _ _ _
  replace ab := set_cells ab 1 (.int .i64 xu)
  rw [hv5] at ab
  replace rb := (k5.block w.heap.size (by omega) (by simp; omega)).trans rb
  replace sb := (k5.block w3.heap.size (by omega) (by simp; omega)).trans sb
  have Q5 := R5.grown k5 (by omega) (by omega)
  have q5 := k5.size
  replace G0 := grown_fresh G0 k5 (by omega)
  have d0 := blk_cell sb 0 rfl; have d1 := blk_cell sb 1 rfl; have d2 := blk_cell sb 2 rfl; have d3 := blk_cell sb 3 rfl; have d4 := blk_cell sb 4 rfl
  clear R5 G5 k5 N5 R4
  have A6 := sx_of ab
  obtain ⟨A0, A1, A2, A3, A4, A5⟩ := A6
  obtain ⟨V', hV', gV, ⟨o0, o1, o2, o3, o4, o5⟩, fr, ⟨z0, z1, z2, z3, z4, z5⟩⟩ := putx rb (.int .i64 5) (.int .i64 xu) (.int .i64 0) (.int .i64 0) (.string ⟨#[]⟩) (.slice none 0 0)
  have fr0 := fr 0; have fr1 := fr 1; have fr2 := fr 2; have fr3 := fr 3; have fr4 := fr 4; have fr5 := fr 5
  have T := hide (show ARet w0 w g ws (.returned (acv ⟨5, xu, 0, 0, ⟨#[]⟩, []⟩ (.slice none 0 0))) V' from ⟨_, _, _, _, rfl, OwnO.nil _ _ _, actP_5 HE.out HK.out P5.out, Q5.grown gV hw0 (by omega), grown_fresh G0 gV (Nat.le_refl _)⟩)
  unfold acv acc at T
  clear G0 gV rb ab sb Q5
  go_wp2
  refine bodyPost_ret (v := .agg #[.int .i64 5, .int .i64 xu, .int .i64 0, .int .i64 0, .string ⟨#[]⟩, .slice none 0 0]) (by simp [results, Tryz.results24, go_sem, z0, z1, z2, z3, z4, z5]) rfl ?_
  exact T.out

set_option maxHeartbeats 4000000 in
theorem ract_6 (w0 w : World) (g : Nat) (ws : List ByteArray) (hv : Vs w0) (hz : ∀ s ∈ ws, s.size ≤ 65536) (hl : ws.length ≤ 65536) (hne : ws ≠ []) (hk : kd (ws.headD ⟨#[]⟩).data.toList = 6) (h : Rd w0 w g ws false) :
    Calls Tryz.prog 24 #[.pointer (some ⟨g, 0, none⟩)] w (ARet w0 w g ws) := by
  obtain ⟨W, hW, szW, belW, rb⟩ := blk_step w #[.int .i64 0, .int .i64 0, .int .i64 0, .int .i64 0, .string ⟨#[]⟩, .slice none 0 0] 24
  have hgl := h.lt
  have hw0 := h.bel.size
  have hW1 := hide (rword_any w0 W g ws false (h.below belW))
  have HZ := hide hz
  have HK := hide hk
  have HE := hide hne
  have hb1 : (false || ws.isEmpty) = false := by
    cases ws with
    | nil => exact absurd rfl hne
    | cons a r => rfl
  rw [hb1] at hW1
  obtain ⟨s, hs⟩ : ∃ s, ws.headD ⟨#[]⟩ = s := ⟨_, rfl⟩
  rw [hs] at hW1 hk
  have hlt1 : ws.tail.length ≤ 65536 := by rw [List.length_tail]; omega
  have hz1 : ∀ s ∈ ws.tail, s.size ≤ 65536 := fun s hs => hz s (List.mem_of_mem_tail hs)
  have G0 := grown_of_below belW (some g)
  clear h hz hne hs hb1 belW
  go_enter Tryz.func24, Tryz.ntmps24
  go_wp2_with fail
  refine hW1.out.mono ?_
  rintro E w1 ⟨rfl, R1, G1⟩
  have g1 := G1.size
  replace rb := (G1.block w.heap.size (by omega) (by simp; omega)).trans rb
  replace G0 := grown_trans G0 G1
  have N1 := (hv.below R1.bel).nms
  clear hW1
  go_wp2_with fail
  refine (kindOf_any s w1 N1).mono ?_
  rintro E wx ⟨rfl, rfl⟩
  rw [hk]
  obtain ⟨w2, hw2, s2, b2, ab⟩ := blk_step w1 #[.int .i64 6, .int .i64 0, .int .i64 0, .int .i64 0, .string ⟨#[]⟩, .slice none 0 0] 24
  replace rb := (b2.block w.heap.size (by omega)).trans rb
  have R2 := R1.below b2
  replace G0 := grown_trans G0 (grown_of_below b2 _)
  have a0 := blk_cell ab 0 rfl; have a1 := blk_cell ab 1 rfl; have a2 := blk_cell ab 2 rfl; have a3 := blk_cell ab 3 rfl; have a4 := blk_cell ab 4 rfl; have a5 := blk_cell ab 5 rfl
  have p0 := blk_froz ab 0; have p1 := blk_froz ab 1; have p2 := blk_froz ab 2; have p3 := blk_froz ab 3; have p4 := blk_froz ab 4; have p5 := blk_froz ab 5
  have x0 := set_same ab (j := 0) (u := .int .i64 6) rfl; have x1 := set_same ab (j := 1) (u := .int .i64 0) rfl; have x2 := set_same ab (j := 2) (u := .int .i64 0) rfl
  have x3 := set_same ab (j := 3) (u := .int .i64 0) rfl; have x4 := set_same ab (j := 4) (u := .string ⟨#[]⟩) rfl; have x5 := set_same ab (j := 5) (u := .slice none 0 0) rfl
  clear R1 N1 G1
  go_wp2_with fail
  refine (shapeOf_any 6 w2 (by omega)).mono ?_
  rintro E w3 ⟨rfl, b3⟩
  rw [show shV 6 = .agg #[.int .i64 0, .int .i64 999999999, .int .i64 0, .bool false, .bool false] by rfl]
  obtain ⟨w4, hw4, s4, b4, sb⟩ := blk_step w3 #[.int .i64 0, .int .i64 999999999, .int .i64 0, .bool false, .bool false] 89
  have b24 := b3.trans (b4.mono b3.size)
  have g3 := b3.size
  replace rb := (b24.block w.heap.size (by omega)).trans rb
  replace ab := (b24.block w1.heap.size (by omega)).trans ab
  have R4 := R2.below b24
  replace G0 := grown_trans G0 (grown_of_below b24 _)
  have d0 := blk_cell sb 0 rfl; have d1 := blk_cell sb 1 rfl; have d2 := blk_cell sb 2 rfl; have d3 := blk_cell sb 3 rfl; have d4 := blk_cell sb 4 rfl
  clear R2 b2 b3 b4 b24 a0 a1 a2 a3 a4 a5 p0 p1 p2 p3 p4 p5 x0 x1 x2 x3 x4 x5
  have p0 := blk_froz sb 0; have p1 := blk_froz sb 1; have p2 := blk_froz sb 2; have p3 := blk_froz sb 3; have p4 := blk_froz sb 4
  have x0 := set_same sb (j := 0) (u := .int .i64 0) rfl; have x1 := set_same sb (j := 1) (u := .int .i64 999999999) rfl; have x2 := set_same sb (j := 2) (u := .int .i64 0) rfl; have x3 := set_same sb (j := 3) (u := .bool false) rfl; have x4 := set_same sb (j := 4) (u := .bool false) rfl
  go_wp2_with fail
  refine (rnum_any w0 w4 g _ _ hv hz1 R4).mono ?_
  rintro E w5 ⟨xn, ok5, rfl, N5, R5, G5⟩
  have P5 := hide (numS_of (bad := false) N5)
  obtain ⟨b5, hb5⟩ : ∃ b, (false || ws.tail.isEmpty || !ok5) = b := ⟨_, rfl⟩
  rw [hb5] at R5 P5
  clear hb5
  replace rb := (G5.block w.heap.size (by omega) (by simp; omega)).trans rb
  replace ab := (G5.block w1.heap.size (by omega) (by simp; omega)).trans ab
  replace sb := (G5.block w3.heap.size (by omega) (by simp; omega)).trans sb
  replace G0 := grown_trans G0 G5
  have g5 := G5.size
  have e5 := blk_cell ab 2 rfl
  have f5 := blk_froz ab 2
  obtain ⟨v5, hv5⟩ : ∃ V, w5.setCell ⟨w1.heap.size, 2, none⟩ (.int .i64 xn) = V := ⟨_, rfl⟩
  have k5 : w5.grownBy v5 (some w1.heap.size) := by rw [← hv5]; exact grown_setCell _ _ _
  replace ab := set_cells ab 2 (.int .i64 xn)
  rw [hv5] at ab
  replace rb := (k5.block w.heap.size (by omega) (by simp; omega)).trans rb
  replace sb := (k5.block w3.heap.size (by omega) (by simp; omega)).trans sb
  have Q5 := R5.grown k5 (by omega) (by omega)
  have q5 := k5.size
  replace G0 := grown_fresh G0 k5 (by omega)
  have d0 := blk_cell sb 0 rfl; have d1 := blk_cell sb 1 rfl; have d2 := blk_cell sb 2 rfl; have d3 := blk_cell sb 3 rfl; have d4 := blk_cell sb 4 rfl
  clear R5 G5 k5 N5 R4
  have A6 := sx_of ab
  obtain ⟨A0, A1, A2, A3, A4, A5⟩ := A6
  obtain ⟨V', hV', gV, ⟨o0, o1, o2, o3, o4, o5⟩, fr, ⟨z0, z1, z2, z3, z4, z5⟩⟩ := putx rb (.int .i64 6) (.int .i64 0) (.int .i64 xn) (.int .i64 0) (.string ⟨#[]⟩) (.slice none 0 0)
  have fr0 := fr 0; have fr1 := fr 1; have fr2 := fr 2; have fr3 := fr 3; have fr4 := fr 4; have fr5 := fr 5
  have T := hide (show ARet w0 w g ws (.returned (acv ⟨6, 0, xn, 0, ⟨#[]⟩, []⟩ (.slice none 0 0))) V' from ⟨_, _, _, _, rfl, OwnO.nil _ _ _, actP_6 HE.out HK.out P5.out, Q5.grown gV hw0 (by omega), grown_fresh G0 gV (Nat.le_refl _)⟩)
  unfold acv acc at T
  clear G0 gV rb ab sb Q5
  go_wp2
  refine bodyPost_ret (v := .agg #[.int .i64 6, .int .i64 0, .int .i64 xn, .int .i64 0, .string ⟨#[]⟩, .slice none 0 0]) (by simp [results, Tryz.results24, go_sem, z0, z1, z2, z3, z4, z5]) rfl ?_
  exact T.out

set_option maxHeartbeats 4000000 in
theorem ract_7 (w0 w : World) (g : Nat) (ws : List ByteArray) (hv : Vs w0) (hz : ∀ s ∈ ws, s.size ≤ 65536) (hl : ws.length ≤ 65536) (hne : ws ≠ []) (hk : kd (ws.headD ⟨#[]⟩).data.toList = 7) (h : Rd w0 w g ws false) :
    Calls Tryz.prog 24 #[.pointer (some ⟨g, 0, none⟩)] w (ARet w0 w g ws) := by
  obtain ⟨W, hW, szW, belW, rb⟩ := blk_step w #[.int .i64 0, .int .i64 0, .int .i64 0, .int .i64 0, .string ⟨#[]⟩, .slice none 0 0] 24
  have hgl := h.lt
  have hw0 := h.bel.size
  have hW1 := hide (rword_any w0 W g ws false (h.below belW))
  have HZ := hide hz
  have HK := hide hk
  have HE := hide hne
  have hb1 : (false || ws.isEmpty) = false := by
    cases ws with
    | nil => exact absurd rfl hne
    | cons a r => rfl
  rw [hb1] at hW1
  obtain ⟨s, hs⟩ : ∃ s, ws.headD ⟨#[]⟩ = s := ⟨_, rfl⟩
  rw [hs] at hW1 hk
  have hlt1 : ws.tail.length ≤ 65536 := by rw [List.length_tail]; omega
  have hz1 : ∀ s ∈ ws.tail, s.size ≤ 65536 := fun s hs => hz s (List.mem_of_mem_tail hs)
  have G0 := grown_of_below belW (some g)
  clear h hz hne hs hb1 belW
  go_enter Tryz.func24, Tryz.ntmps24
  go_wp2_with fail
  refine hW1.out.mono ?_
  rintro E w1 ⟨rfl, R1, G1⟩
  have g1 := G1.size
  replace rb := (G1.block w.heap.size (by omega) (by simp; omega)).trans rb
  replace G0 := grown_trans G0 G1
  have N1 := (hv.below R1.bel).nms
  clear hW1
  go_wp2_with fail
  refine (kindOf_any s w1 N1).mono ?_
  rintro E wx ⟨rfl, rfl⟩
  rw [hk]
  obtain ⟨w2, hw2, s2, b2, ab⟩ := blk_step w1 #[.int .i64 7, .int .i64 0, .int .i64 0, .int .i64 0, .string ⟨#[]⟩, .slice none 0 0] 24
  replace rb := (b2.block w.heap.size (by omega)).trans rb
  have R2 := R1.below b2
  replace G0 := grown_trans G0 (grown_of_below b2 _)
  have a0 := blk_cell ab 0 rfl; have a1 := blk_cell ab 1 rfl; have a2 := blk_cell ab 2 rfl; have a3 := blk_cell ab 3 rfl; have a4 := blk_cell ab 4 rfl; have a5 := blk_cell ab 5 rfl
  have p0 := blk_froz ab 0; have p1 := blk_froz ab 1; have p2 := blk_froz ab 2; have p3 := blk_froz ab 3; have p4 := blk_froz ab 4; have p5 := blk_froz ab 5
  have x0 := set_same ab (j := 0) (u := .int .i64 7) rfl; have x1 := set_same ab (j := 1) (u := .int .i64 0) rfl; have x2 := set_same ab (j := 2) (u := .int .i64 0) rfl
  have x3 := set_same ab (j := 3) (u := .int .i64 0) rfl; have x4 := set_same ab (j := 4) (u := .string ⟨#[]⟩) rfl; have x5 := set_same ab (j := 5) (u := .slice none 0 0) rfl
  clear R1 N1 G1
  go_wp2_with fail
  refine (shapeOf_any 7 w2 (by omega)).mono ?_
  rintro E w3 ⟨rfl, b3⟩
  rw [show shV 7 = .agg #[.int .i64 0, .int .i64 999999999, .int .i64 0, .bool false, .bool false] by rfl]
  obtain ⟨w4, hw4, s4, b4, sb⟩ := blk_step w3 #[.int .i64 0, .int .i64 999999999, .int .i64 0, .bool false, .bool false] 89
  have b24 := b3.trans (b4.mono b3.size)
  have g3 := b3.size
  replace rb := (b24.block w.heap.size (by omega)).trans rb
  replace ab := (b24.block w1.heap.size (by omega)).trans ab
  have R4 := R2.below b24
  replace G0 := grown_trans G0 (grown_of_below b24 _)
  have d0 := blk_cell sb 0 rfl; have d1 := blk_cell sb 1 rfl; have d2 := blk_cell sb 2 rfl; have d3 := blk_cell sb 3 rfl; have d4 := blk_cell sb 4 rfl
  clear R2 b2 b3 b4 b24 a0 a1 a2 a3 a4 a5 p0 p1 p2 p3 p4 p5 x0 x1 x2 x3 x4 x5
  have p0 := blk_froz sb 0; have p1 := blk_froz sb 1; have p2 := blk_froz sb 2; have p3 := blk_froz sb 3; have p4 := blk_froz sb 4
  have x0 := set_same sb (j := 0) (u := .int .i64 0) rfl; have x1 := set_same sb (j := 1) (u := .int .i64 999999999) rfl; have x2 := set_same sb (j := 2) (u := .int .i64 0) rfl; have x3 := set_same sb (j := 3) (u := .bool false) rfl; have x4 := set_same sb (j := 4) (u := .bool false) rfl
  go_wp2_with fail
  refine (rnum_any w0 w4 g _ _ hv hz1 R4).mono ?_
  rintro E w5 ⟨xn, ok5, rfl, N5, R5, G5⟩
  have P5 := hide (numS_of (bad := false) N5)
  obtain ⟨b5, hb5⟩ : ∃ b, (false || ws.tail.isEmpty || !ok5) = b := ⟨_, rfl⟩
  rw [hb5] at R5 P5
  clear hb5
  replace rb := (G5.block w.heap.size (by omega) (by simp; omega)).trans rb
  replace ab := (G5.block w1.heap.size (by omega) (by simp; omega)).trans ab
  replace sb := (G5.block w3.heap.size (by omega) (by simp; omega)).trans sb
  replace G0 := grown_trans G0 G5
  have g5 := G5.size
  have e5 := blk_cell ab 2 rfl
  have f5 := blk_froz ab 2
  obtain ⟨v5, hv5⟩ : ∃ V, w5.setCell ⟨w1.heap.size, 2, none⟩ (.int .i64 xn) = V := ⟨_, rfl⟩
  have k5 : w5.grownBy v5 (some w1.heap.size) := by rw [← hv5]; exact grown_setCell _ _ _
  replace ab := set_cells ab 2 (.int .i64 xn)
  rw [hv5] at ab
  replace rb := (k5.block w.heap.size (by omega) (by simp; omega)).trans rb
  replace sb := (k5.block w3.heap.size (by omega) (by simp; omega)).trans sb
  have Q5 := R5.grown k5 (by omega) (by omega)
  have q5 := k5.size
  replace G0 := grown_fresh G0 k5 (by omega)
  have d0 := blk_cell sb 0 rfl; have d1 := blk_cell sb 1 rfl; have d2 := blk_cell sb 2 rfl; have d3 := blk_cell sb 3 rfl; have d4 := blk_cell sb 4 rfl
  clear R5 G5 k5 N5 R4
  have A6 := sx_of ab
  obtain ⟨A0, A1, A2, A3, A4, A5⟩ := A6
  obtain ⟨V', hV', gV, ⟨o0, o1, o2, o3, o4, o5⟩, fr, ⟨z0, z1, z2, z3, z4, z5⟩⟩ := putx rb (.int .i64 7) (.int .i64 0) (.int .i64 xn) (.int .i64 0) (.string ⟨#[]⟩) (.slice none 0 0)
  have fr0 := fr 0; have fr1 := fr 1; have fr2 := fr 2; have fr3 := fr 3; have fr4 := fr 4; have fr5 := fr 5
  have T := hide (show ARet w0 w g ws (.returned (acv ⟨7, 0, xn, 0, ⟨#[]⟩, []⟩ (.slice none 0 0))) V' from ⟨_, _, _, _, rfl, OwnO.nil _ _ _, actP_7 HE.out HK.out P5.out, Q5.grown gV hw0 (by omega), grown_fresh G0 gV (Nat.le_refl _)⟩)
  unfold acv acc at T
  clear G0 gV rb ab sb Q5
  go_wp2
  refine bodyPost_ret (v := .agg #[.int .i64 7, .int .i64 0, .int .i64 xn, .int .i64 0, .string ⟨#[]⟩, .slice none 0 0]) (by simp [results, Tryz.results24, go_sem, z0, z1, z2, z3, z4, z5]) rfl ?_
  exact T.out

set_option maxHeartbeats 4000000 in
theorem ract_8 (w0 w : World) (g : Nat) (ws : List ByteArray) (hv : Vs w0) (hz : ∀ s ∈ ws, s.size ≤ 65536) (hl : ws.length ≤ 65536) (hne : ws ≠ []) (hk : kd (ws.headD ⟨#[]⟩).data.toList = 8) (h : Rd w0 w g ws false) :
    Calls Tryz.prog 24 #[.pointer (some ⟨g, 0, none⟩)] w (ARet w0 w g ws) := by
  obtain ⟨W, hW, szW, belW, rb⟩ := blk_step w #[.int .i64 0, .int .i64 0, .int .i64 0, .int .i64 0, .string ⟨#[]⟩, .slice none 0 0] 24
  have hgl := h.lt
  have hw0 := h.bel.size
  have hW1 := hide (rword_any w0 W g ws false (h.below belW))
  have HZ := hide hz
  have HK := hide hk
  have HE := hide hne
  have hb1 : (false || ws.isEmpty) = false := by
    cases ws with
    | nil => exact absurd rfl hne
    | cons a r => rfl
  rw [hb1] at hW1
  obtain ⟨s, hs⟩ : ∃ s, ws.headD ⟨#[]⟩ = s := ⟨_, rfl⟩
  rw [hs] at hW1 hk
  have hlt1 : ws.tail.length ≤ 65536 := by rw [List.length_tail]; omega
  have hz1 : ∀ s ∈ ws.tail, s.size ≤ 65536 := fun s hs => hz s (List.mem_of_mem_tail hs)
  have G0 := grown_of_below belW (some g)
  clear h hz hne hs hb1 belW
  go_enter Tryz.func24, Tryz.ntmps24
  go_wp2_with fail
  refine hW1.out.mono ?_
  rintro E w1 ⟨rfl, R1, G1⟩
  have g1 := G1.size
  replace rb := (G1.block w.heap.size (by omega) (by simp; omega)).trans rb
  replace G0 := grown_trans G0 G1
  have N1 := (hv.below R1.bel).nms
  clear hW1
  go_wp2_with fail
  refine (kindOf_any s w1 N1).mono ?_
  rintro E wx ⟨rfl, rfl⟩
  rw [hk]
  obtain ⟨w2, hw2, s2, b2, ab⟩ := blk_step w1 #[.int .i64 8, .int .i64 0, .int .i64 0, .int .i64 0, .string ⟨#[]⟩, .slice none 0 0] 24
  replace rb := (b2.block w.heap.size (by omega)).trans rb
  have R2 := R1.below b2
  replace G0 := grown_trans G0 (grown_of_below b2 _)
  have a0 := blk_cell ab 0 rfl; have a1 := blk_cell ab 1 rfl; have a2 := blk_cell ab 2 rfl; have a3 := blk_cell ab 3 rfl; have a4 := blk_cell ab 4 rfl; have a5 := blk_cell ab 5 rfl
  have p0 := blk_froz ab 0; have p1 := blk_froz ab 1; have p2 := blk_froz ab 2; have p3 := blk_froz ab 3; have p4 := blk_froz ab 4; have p5 := blk_froz ab 5
  have x0 := set_same ab (j := 0) (u := .int .i64 8) rfl; have x1 := set_same ab (j := 1) (u := .int .i64 0) rfl; have x2 := set_same ab (j := 2) (u := .int .i64 0) rfl
  have x3 := set_same ab (j := 3) (u := .int .i64 0) rfl; have x4 := set_same ab (j := 4) (u := .string ⟨#[]⟩) rfl; have x5 := set_same ab (j := 5) (u := .slice none 0 0) rfl
  clear R1 N1 G1
  go_wp2_with fail
  refine (shapeOf_any 8 w2 (by omega)).mono ?_
  rintro E w3 ⟨rfl, b3⟩
  rw [show shV 8 = .agg #[.int .i64 0, .int .i64 999999999, .int .i64 0, .bool false, .bool false] by rfl]
  obtain ⟨w4, hw4, s4, b4, sb⟩ := blk_step w3 #[.int .i64 0, .int .i64 999999999, .int .i64 0, .bool false, .bool false] 89
  have b24 := b3.trans (b4.mono b3.size)
  have g3 := b3.size
  replace rb := (b24.block w.heap.size (by omega)).trans rb
  replace ab := (b24.block w1.heap.size (by omega)).trans ab
  have R4 := R2.below b24
  replace G0 := grown_trans G0 (grown_of_below b24 _)
  have d0 := blk_cell sb 0 rfl; have d1 := blk_cell sb 1 rfl; have d2 := blk_cell sb 2 rfl; have d3 := blk_cell sb 3 rfl; have d4 := blk_cell sb 4 rfl
  clear R2 b2 b3 b4 b24 a0 a1 a2 a3 a4 a5 p0 p1 p2 p3 p4 p5 x0 x1 x2 x3 x4 x5
  have p0 := blk_froz sb 0; have p1 := blk_froz sb 1; have p2 := blk_froz sb 2; have p3 := blk_froz sb 3; have p4 := blk_froz sb 4
  have x0 := set_same sb (j := 0) (u := .int .i64 0) rfl; have x1 := set_same sb (j := 1) (u := .int .i64 999999999) rfl; have x2 := set_same sb (j := 2) (u := .int .i64 0) rfl; have x3 := set_same sb (j := 3) (u := .bool false) rfl; have x4 := set_same sb (j := 4) (u := .bool false) rfl
  go_wp2_with fail
  refine (rnum_any w0 w4 g _ _ hv hz1 R4).mono ?_
  rintro E w5 ⟨xn, ok5, rfl, N5, R5, G5⟩
  have P5 := hide (numS_of (bad := false) N5)
  obtain ⟨b5, hb5⟩ : ∃ b, (false || ws.tail.isEmpty || !ok5) = b := ⟨_, rfl⟩
  rw [hb5] at R5 P5
  clear hb5
  replace rb := (G5.block w.heap.size (by omega) (by simp; omega)).trans rb
  replace ab := (G5.block w1.heap.size (by omega) (by simp; omega)).trans ab
  replace sb := (G5.block w3.heap.size (by omega) (by simp; omega)).trans sb
  replace G0 := grown_trans G0 G5
  have g5 := G5.size
  have e5 := blk_cell ab 2 rfl
  have f5 := blk_froz ab 2
  obtain ⟨v5, hv5⟩ : ∃ V, w5.setCell ⟨w1.heap.size, 2, none⟩ (.int .i64 xn) = V := ⟨_, rfl⟩
  have k5 : w5.grownBy v5 (some w1.heap.size) := by rw [← hv5]; exact grown_setCell _ _ _
  replace ab := set_cells ab 2 (.int .i64 xn)
  rw [hv5] at ab
  replace rb := (k5.block w.heap.size (by omega) (by simp; omega)).trans rb
  replace sb := (k5.block w3.heap.size (by omega) (by simp; omega)).trans sb
  have Q5 := R5.grown k5 (by omega) (by omega)
  have q5 := k5.size
  replace G0 := grown_fresh G0 k5 (by omega)
  have d0 := blk_cell sb 0 rfl; have d1 := blk_cell sb 1 rfl; have d2 := blk_cell sb 2 rfl; have d3 := blk_cell sb 3 rfl; have d4 := blk_cell sb 4 rfl
  clear R5 G5 k5 N5 R4
  have A6 := sx_of ab
  obtain ⟨A0, A1, A2, A3, A4, A5⟩ := A6
  obtain ⟨V', hV', gV, ⟨o0, o1, o2, o3, o4, o5⟩, fr, ⟨z0, z1, z2, z3, z4, z5⟩⟩ := putx rb (.int .i64 8) (.int .i64 0) (.int .i64 xn) (.int .i64 0) (.string ⟨#[]⟩) (.slice none 0 0)
  have fr0 := fr 0; have fr1 := fr 1; have fr2 := fr 2; have fr3 := fr 3; have fr4 := fr 4; have fr5 := fr 5
  have T := hide (show ARet w0 w g ws (.returned (acv ⟨8, 0, xn, 0, ⟨#[]⟩, []⟩ (.slice none 0 0))) V' from ⟨_, _, _, _, rfl, OwnO.nil _ _ _, actP_8 HE.out HK.out P5.out, Q5.grown gV hw0 (by omega), grown_fresh G0 gV (Nat.le_refl _)⟩)
  unfold acv acc at T
  clear G0 gV rb ab sb Q5
  go_wp2
  refine bodyPost_ret (v := .agg #[.int .i64 8, .int .i64 0, .int .i64 xn, .int .i64 0, .string ⟨#[]⟩, .slice none 0 0]) (by simp [results, Tryz.results24, go_sem, z0, z1, z2, z3, z4, z5]) rfl ?_
  exact T.out

set_option maxHeartbeats 4000000 in
theorem ract_9 (w0 w : World) (g : Nat) (ws : List ByteArray) (hv : Vs w0) (hz : ∀ s ∈ ws, s.size ≤ 65536) (hl : ws.length ≤ 65536) (hne : ws ≠ []) (hk : kd (ws.headD ⟨#[]⟩).data.toList = 9) (h : Rd w0 w g ws false) :
    Calls Tryz.prog 24 #[.pointer (some ⟨g, 0, none⟩)] w (ARet w0 w g ws) := by
  obtain ⟨W, hW, szW, belW, rb⟩ := blk_step w #[.int .i64 0, .int .i64 0, .int .i64 0, .int .i64 0, .string ⟨#[]⟩, .slice none 0 0] 24
  have hgl := h.lt
  have hw0 := h.bel.size
  have hW1 := hide (rword_any w0 W g ws false (h.below belW))
  have HZ := hide hz
  have HK := hide hk
  have HE := hide hne
  have hb1 : (false || ws.isEmpty) = false := by
    cases ws with
    | nil => exact absurd rfl hne
    | cons a r => rfl
  rw [hb1] at hW1
  obtain ⟨s, hs⟩ : ∃ s, ws.headD ⟨#[]⟩ = s := ⟨_, rfl⟩
  rw [hs] at hW1 hk
  have hlt1 : ws.tail.length ≤ 65536 := by rw [List.length_tail]; omega
  have hz1 : ∀ s ∈ ws.tail, s.size ≤ 65536 := fun s hs => hz s (List.mem_of_mem_tail hs)
  have G0 := grown_of_below belW (some g)
  clear h hz hne hs hb1 belW
  go_enter Tryz.func24, Tryz.ntmps24
  go_wp2_with fail
  refine hW1.out.mono ?_
  rintro E w1 ⟨rfl, R1, G1⟩
  have g1 := G1.size
  replace rb := (G1.block w.heap.size (by omega) (by simp; omega)).trans rb
  replace G0 := grown_trans G0 G1
  have N1 := (hv.below R1.bel).nms
  clear hW1
  go_wp2_with fail
  refine (kindOf_any s w1 N1).mono ?_
  rintro E wx ⟨rfl, rfl⟩
  rw [hk]
  obtain ⟨w2, hw2, s2, b2, ab⟩ := blk_step w1 #[.int .i64 9, .int .i64 0, .int .i64 0, .int .i64 0, .string ⟨#[]⟩, .slice none 0 0] 24
  replace rb := (b2.block w.heap.size (by omega)).trans rb
  have R2 := R1.below b2
  replace G0 := grown_trans G0 (grown_of_below b2 _)
  have a0 := blk_cell ab 0 rfl; have a1 := blk_cell ab 1 rfl; have a2 := blk_cell ab 2 rfl; have a3 := blk_cell ab 3 rfl; have a4 := blk_cell ab 4 rfl; have a5 := blk_cell ab 5 rfl
  have p0 := blk_froz ab 0; have p1 := blk_froz ab 1; have p2 := blk_froz ab 2; have p3 := blk_froz ab 3; have p4 := blk_froz ab 4; have p5 := blk_froz ab 5
  have x0 := set_same ab (j := 0) (u := .int .i64 9) rfl; have x1 := set_same ab (j := 1) (u := .int .i64 0) rfl; have x2 := set_same ab (j := 2) (u := .int .i64 0) rfl
  have x3 := set_same ab (j := 3) (u := .int .i64 0) rfl; have x4 := set_same ab (j := 4) (u := .string ⟨#[]⟩) rfl; have x5 := set_same ab (j := 5) (u := .slice none 0 0) rfl
  clear R1 N1 G1
  go_wp2_with fail
  refine (shapeOf_any 9 w2 (by omega)).mono ?_
  rintro E w3 ⟨rfl, b3⟩
  rw [show shV 9 = .agg #[.int .i64 1, .int .i64 999999999, .int .i64 0, .bool false, .bool false] by rfl]
  obtain ⟨w4, hw4, s4, b4, sb⟩ := blk_step w3 #[.int .i64 1, .int .i64 999999999, .int .i64 0, .bool false, .bool false] 89
  have b24 := b3.trans (b4.mono b3.size)
  have g3 := b3.size
  replace rb := (b24.block w.heap.size (by omega)).trans rb
  replace ab := (b24.block w1.heap.size (by omega)).trans ab
  have R4 := R2.below b24
  replace G0 := grown_trans G0 (grown_of_below b24 _)
  have d0 := blk_cell sb 0 rfl; have d1 := blk_cell sb 1 rfl; have d2 := blk_cell sb 2 rfl; have d3 := blk_cell sb 3 rfl; have d4 := blk_cell sb 4 rfl
  clear R2 b2 b3 b4 b24 a0 a1 a2 a3 a4 a5 p0 p1 p2 p3 p4 p5 x0 x1 x2 x3 x4 x5
  have p0 := blk_froz sb 0; have p1 := blk_froz sb 1; have p2 := blk_froz sb 2; have p3 := blk_froz sb 3; have p4 := blk_froz sb 4
  have x0 := set_same sb (j := 0) (u := .int .i64 1) rfl; have x1 := set_same sb (j := 1) (u := .int .i64 999999999) rfl; have x2 := set_same sb (j := 2) (u := .int .i64 0) rfl; have x3 := set_same sb (j := 3) (u := .bool false) rfl; have x4 := set_same sb (j := 4) (u := .bool false) rfl
  go_wp2_with fail
  refine (rnum_any w0 w4 g _ _ hv hz1 R4).mono ?_
  rintro E w5 ⟨xu, ok5, rfl, N5, R5, G5⟩
  have P5 := hide (numS_of (bad := false) N5)
  obtain ⟨b5, hb5⟩ : ∃ b, (false || ws.tail.isEmpty || !ok5) = b := ⟨_, rfl⟩
  rw [hb5] at R5 P5
  clear hb5
  replace rb := (G5.block w.heap.size (by omega) (by simp; omega)).trans rb
  replace ab := (G5.block w1.heap.size (by omega) (by simp; omega)).trans ab
  replace sb := (G5.block w3.heap.size (by omega) (by simp; omega)).trans sb
  replace G0 := grown_trans G0 G5
  have g5 := G5.size
  have e5 := blk_cell ab 1 rfl
  have f5 := blk_froz ab 1
  obtain ⟨v5, hv5⟩ : ∃ V, w5.setCell ⟨w1.heap.size, 1, none⟩ (.int .i64 xu) = V := ⟨_, rfl⟩
  have k5 : w5.grownBy v5 (some w1.heap.size) := by rw [← hv5]; exact grown_setCell _ _ _
  replace ab := set_cells ab 1 (.int .i64 xu)
  rw [hv5] at ab
  replace rb := (k5.block w.heap.size (by omega) (by simp; omega)).trans rb
  replace sb := (k5.block w3.heap.size (by omega) (by simp; omega)).trans sb
  have Q5 := R5.grown k5 (by omega) (by omega)
  have q5 := k5.size
  replace G0 := grown_fresh G0 k5 (by omega)
  have d0 := blk_cell sb 0 rfl; have d1 := blk_cell sb 1 rfl; have d2 := blk_cell sb 2 rfl; have d3 := blk_cell sb 3 rfl; have d4 := blk_cell sb 4 rfl
  have hz5 : ∀ s ∈ ws.tail.tail, s.size ≤ 65536 := fun s hs => hz1 s (List.mem_of_mem_tail hs)
  clear R5 G5 k5 N5 R4
  go_wp2_with fail
  refine (rnum_any w0 v5 g _ _ hv hz5 Q5).mono ?_
  rintro E w6 ⟨xn, ok6, rfl, N6, R6, G6⟩
  have P6 := hide (numS_of (bad := b5) N6)
  obtain ⟨b6, hb6⟩ : ∃ b, (b5 || ws.tail.tail.isEmpty || !ok6) = b := ⟨_, rfl⟩
  rw [hb6] at R6 P6
  clear hb6
  replace rb := (G6.block w.heap.size (by omega) (by simp; omega)).trans rb
  replace ab := (G6.block w1.heap.size (by omega) (by simp; omega)).trans ab
  replace sb := (G6.block w3.heap.size (by omega) (by simp; omega)).trans sb
  replace G0 := grown_trans G0 G6
  have g6 := G6.size
  have e6 := blk_cell ab 2 rfl
  have f6 := blk_froz ab 2
  obtain ⟨v6, hv6⟩ : ∃ V, w6.setCell ⟨w1.heap.size, 2, none⟩ (.int .i64 xn) = V := ⟨_, rfl⟩
  have k6 : w6.grownBy v6 (some w1.heap.size) := by rw [← hv6]; exact grown_setCell _ _ _
  replace ab := set_cells ab 2 (.int .i64 xn)
  rw [hv6] at ab
  replace rb := (k6.block w.heap.size (by omega) (by simp; omega)).trans rb
  replace sb := (k6.block w3.heap.size (by omega) (by simp; omega)).trans sb
  have Q6 := R6.grown k6 (by omega) (by omega)
  have q6 := k6.size
  replace G0 := grown_fresh G0 k6 (by omega)
  have d0 := blk_cell sb 0 rfl; have d1 := blk_cell sb 1 rfl; have d2 := blk_cell sb 2 rfl; have d3 := blk_cell sb 3 rfl; have d4 := blk_cell sb 4 rfl
  clear R6 G6 k6 N6 Q5
  have A6 := sx_of ab
  obtain ⟨A0, A1, A2, A3, A4, A5⟩ := A6
  obtain ⟨V', hV', gV, ⟨o0, o1, o2, o3, o4, o5⟩, fr, ⟨z0, z1, z2, z3, z4, z5⟩⟩ := putx rb (.int .i64 9) (.int .i64 xu) (.int .i64 xn) (.int .i64 0) (.string ⟨#[]⟩) (.slice none 0 0)
  have fr0 := fr 0; have fr1 := fr 1; have fr2 := fr 2; have fr3 := fr 3; have fr4 := fr 4; have fr5 := fr 5
  have T := hide (show ARet w0 w g ws (.returned (acv ⟨9, xu, xn, 0, ⟨#[]⟩, []⟩ (.slice none 0 0))) V' from ⟨_, _, _, _, rfl, OwnO.nil _ _ _, actP_9 HE.out HK.out P5.out P6.out, Q6.grown gV hw0 (by omega), grown_fresh G0 gV (Nat.le_refl _)⟩)
  unfold acv acc at T
  clear G0 gV rb ab sb Q6
  go_wp2
  refine bodyPost_ret (v := .agg #[.int .i64 9, .int .i64 xu, .int .i64 xn, .int .i64 0, .string ⟨#[]⟩, .slice none 0 0]) (by simp [results, Tryz.results24, go_sem, z0, z1, z2, z3, z4, z5]) rfl ?_
  exact T.out

set_option maxHeartbeats 4000000 in
theorem ract_10 (w0 w : World) (g : Nat) (ws : List ByteArray) (hv : Vs w0) (hz : ∀ s ∈ ws, s.size ≤ 65536) (hl : ws.length ≤ 65536) (hne : ws ≠ []) (hk : kd (ws.headD ⟨#[]⟩).data.toList = 10) (h : Rd w0 w g ws false) :
    Calls Tryz.prog 24 #[.pointer (some ⟨g, 0, none⟩)] w (ARet w0 w g ws) := by
  obtain ⟨W, hW, szW, belW, rb⟩ := blk_step w #[.int .i64 0, .int .i64 0, .int .i64 0, .int .i64 0, .string ⟨#[]⟩, .slice none 0 0] 24
  have hgl := h.lt
  have hw0 := h.bel.size
  have hW1 := hide (rword_any w0 W g ws false (h.below belW))
  have HZ := hide hz
  have HK := hide hk
  have HE := hide hne
  have hb1 : (false || ws.isEmpty) = false := by
    cases ws with
    | nil => exact absurd rfl hne
    | cons a r => rfl
  rw [hb1] at hW1
  obtain ⟨s, hs⟩ : ∃ s, ws.headD ⟨#[]⟩ = s := ⟨_, rfl⟩
  rw [hs] at hW1 hk
  have hlt1 : ws.tail.length ≤ 65536 := by rw [List.length_tail]; omega
  have hz1 : ∀ s ∈ ws.tail, s.size ≤ 65536 := fun s hs => hz s (List.mem_of_mem_tail hs)
  have G0 := grown_of_below belW (some g)
  clear h hz hne hs hb1 belW
  go_enter Tryz.func24, Tryz.ntmps24
  go_wp2_with fail
  refine hW1.out.mono ?_
  rintro E w1 ⟨rfl, R1, G1⟩
  have g1 := G1.size
  replace rb := (G1.block w.heap.size (by omega) (by simp; omega)).trans rb
  replace G0 := grown_trans G0 G1
  have N1 := (hv.below R1.bel).nms
  clear hW1
  go_wp2_with fail
  refine (kindOf_any s w1 N1).mono ?_
  rintro E wx ⟨rfl, rfl⟩
  rw [hk]
  obtain ⟨w2, hw2, s2, b2, ab⟩ := blk_step w1 #[.int .i64 10, .int .i64 0, .int .i64 0, .int .i64 0, .string ⟨#[]⟩, .slice none 0 0] 24
  replace rb := (b2.block w.heap.size (by omega)).trans rb
  have R2 := R1.below b2
  replace G0 := grown_trans G0 (grown_of_below b2 _)
  have a0 := blk_cell ab 0 rfl; have a1 := blk_cell ab 1 rfl; have a2 := blk_cell ab 2 rfl; have a3 := blk_cell ab 3 rfl; have a4 := blk_cell ab 4 rfl; have a5 := blk_cell ab 5 rfl
  have p0 := blk_froz ab 0; have p1 := blk_froz ab 1; have p2 := blk_froz ab 2; have p3 := blk_froz ab 3; have p4 := blk_froz ab 4; have p5 := blk_froz ab 5
  have x0 := set_same ab (j := 0) (u := .int .i64 10) rfl; have x1 := set_same ab (j := 1) (u := .int .i64 0) rfl; have x2 := set_same ab (j := 2) (u := .int .i64 0) rfl
  have x3 := set_same ab (j := 3) (u := .int .i64 0) rfl; have x4 := set_same ab (j := 4) (u := .string ⟨#[]⟩) rfl; have x5 := set_same ab (j := 5) (u := .slice none 0 0) rfl
  clear R1 N1 G1
  go_wp2_with fail
  refine (shapeOf_any 10 w2 (by omega)).mono ?_
  rintro E w3 ⟨rfl, b3⟩
  rw [show shV 10 = .agg #[.int .i64 1, .int .i64 0, .int .i64 0, .bool false, .bool false] by rfl]
  obtain ⟨w4, hw4, s4, b4, sb⟩ := blk_step w3 #[.int .i64 1, .int .i64 0, .int .i64 0, .bool false, .bool false] 89
  have b24 := b3.trans (b4.mono b3.size)
  have g3 := b3.size
  replace rb := (b24.block w.heap.size (by omega)).trans rb
  replace ab := (b24.block w1.heap.size (by omega)).trans ab
  have R4 := R2.below b24
  replace G0 := grown_trans G0 (grown_of_below b24 _)
  have d0 := blk_cell sb 0 rfl; have d1 := blk_cell sb 1 rfl; have d2 := blk_cell sb 2 rfl; have d3 := blk_cell sb 3 rfl; have d4 := blk_cell sb 4 rfl
  clear R2 b2 b3 b4 b24 a0 a1 a2 a3 a4 a5 p0 p1 p2 p3 p4 p5 x0 x1 x2 x3 x4 x5
  have p0 := blk_froz sb 0; have p1 := blk_froz sb 1; have p2 := blk_froz sb 2; have p3 := blk_froz sb 3; have p4 := blk_froz sb 4
  have x0 := set_same sb (j := 0) (u := .int .i64 1) rfl; have x1 := set_same sb (j := 1) (u := .int .i64 0) rfl; have x2 := set_same sb (j := 2) (u := .int .i64 0) rfl; have x3 := set_same sb (j := 3) (u := .bool false) rfl; have x4 := set_same sb (j := 4) (u := .bool false) rfl
  go_wp2_with fail
  refine (rnum_any w0 w4 g _ _ hv hz1 R4).mono ?_
  rintro E w5 ⟨xu, ok5, rfl, N5, R5, G5⟩
  have P5 := hide (numS_of (bad := false) N5)
  obtain ⟨b5, hb5⟩ : ∃ b, (false || ws.tail.isEmpty || !ok5) = b := ⟨_, rfl⟩
  rw [hb5] at R5 P5
  clear hb5
  replace rb := (G5.block w.heap.size (by omega) (by simp; omega)).trans rb
  replace ab := (G5.block w1.heap.size (by omega) (by simp; omega)).trans ab
  replace sb := (G5.block w3.heap.size (by omega) (by simp; omega)).trans sb
  replace G0 := grown_trans G0 G5
  have g5 := G5.size
  have e5 := blk_cell ab 1 rfl
  have f5 := blk_froz ab 1
  obtain ⟨v5, hv5⟩ : ∃ V, w5.setCell ⟨w1.heap.size, 1, none⟩ (.int .i64 xu) = V := ⟨_, rfl⟩
  have k5 : w5.grownBy v5 (some w1.heap.size) := by rw [← hv5]; exact grown_setCell _ _ _
  replace ab := set_cells ab 1 (.int .i64 xu)
  rw [hv5] at ab
  replace rb := (k5.block w.heap.size (by omega) (by simp; omega)).trans rb
  replace sb := (k5.block w3.heap.size (by omega) (by simp; omega)).trans sb
  have Q5 := R5.grown k5 (by omega) (by omega)
  have q5 := k5.size
  replace G0 := grown_fresh G0 k5 (by omega)
  have d0 := blk_cell sb 0 rfl; have d1 := blk_cell sb 1 rfl; have d2 := blk_cell sb 2 rfl; have d3 := blk_cell sb 3 rfl; have d4 := blk_cell sb 4 rfl
  clear R5 G5 k5 N5 R4
  have A6 := sx_of ab
  obtain ⟨A0, A1, A2, A3, A4, A5⟩ := A6
  obtain ⟨V', hV', gV, ⟨o0, o1, o2, o3, o4, o5⟩, fr, ⟨z0, z1, z2, z3, z4, z5⟩⟩ := putx rb (.int .i64 10) (.int .i64 xu) (.int .i64 0) (.int .i64 0) (.string ⟨#[]⟩) (.slice none 0 0)
  have fr0 := fr 0; have fr1 := fr 1; have fr2 := fr 2; have fr3 := fr 3; have fr4 := fr 4; have fr5 := fr 5
  have T := hide (show ARet w0 w g ws (.returned (acv ⟨10, xu, 0, 0, ⟨#[]⟩, []⟩ (.slice none 0 0))) V' from ⟨_, _, _, _, rfl, OwnO.nil _ _ _, actP_10 HE.out HK.out P5.out, Q5.grown gV hw0 (by omega), grown_fresh G0 gV (Nat.le_refl _)⟩)
  unfold acv acc at T
  clear G0 gV rb ab sb Q5
  go_wp2
  refine bodyPost_ret (v := .agg #[.int .i64 10, .int .i64 xu, .int .i64 0, .int .i64 0, .string ⟨#[]⟩, .slice none 0 0]) (by simp [results, Tryz.results24, go_sem, z0, z1, z2, z3, z4, z5]) rfl ?_
  exact T.out

set_option maxHeartbeats 4000000 in
theorem ract_11 (w0 w : World) (g : Nat) (ws : List ByteArray) (hv : Vs w0) (hz : ∀ s ∈ ws, s.size ≤ 65536) (hl : ws.length ≤ 65536) (hne : ws ≠ []) (hk : kd (ws.headD ⟨#[]⟩).data.toList = 11) (h : Rd w0 w g ws false) :
    Calls Tryz.prog 24 #[.pointer (some ⟨g, 0, none⟩)] w (ARet w0 w g ws) := by
  obtain ⟨W, hW, szW, belW, rb⟩ := blk_step w #[.int .i64 0, .int .i64 0, .int .i64 0, .int .i64 0, .string ⟨#[]⟩, .slice none 0 0] 24
  have hgl := h.lt
  have hw0 := h.bel.size
  have hW1 := hide (rword_any w0 W g ws false (h.below belW))
  have HZ := hide hz
  have HK := hide hk
  have HE := hide hne
  have hb1 : (false || ws.isEmpty) = false := by
    cases ws with
    | nil => exact absurd rfl hne
    | cons a r => rfl
  rw [hb1] at hW1
  obtain ⟨s, hs⟩ : ∃ s, ws.headD ⟨#[]⟩ = s := ⟨_, rfl⟩
  rw [hs] at hW1 hk
  have hlt1 : ws.tail.length ≤ 65536 := by rw [List.length_tail]; omega
  have hz1 : ∀ s ∈ ws.tail, s.size ≤ 65536 := fun s hs => hz s (List.mem_of_mem_tail hs)
  have G0 := grown_of_below belW (some g)
  clear h hz hne hs hb1 belW
  go_enter Tryz.func24, Tryz.ntmps24
  go_wp2_with fail
  refine hW1.out.mono ?_
  rintro E w1 ⟨rfl, R1, G1⟩
  have g1 := G1.size
  replace rb := (G1.block w.heap.size (by omega) (by simp; omega)).trans rb
  replace G0 := grown_trans G0 G1
  have N1 := (hv.below R1.bel).nms
  clear hW1
  go_wp2_with fail
  refine (kindOf_any s w1 N1).mono ?_
  rintro E wx ⟨rfl, rfl⟩
  rw [hk]
  obtain ⟨w2, hw2, s2, b2, ab⟩ := blk_step w1 #[.int .i64 11, .int .i64 0, .int .i64 0, .int .i64 0, .string ⟨#[]⟩, .slice none 0 0] 24
  replace rb := (b2.block w.heap.size (by omega)).trans rb
  have R2 := R1.below b2
  replace G0 := grown_trans G0 (grown_of_below b2 _)
  have a0 := blk_cell ab 0 rfl; have a1 := blk_cell ab 1 rfl; have a2 := blk_cell ab 2 rfl; have a3 := blk_cell ab 3 rfl; have a4 := blk_cell ab 4 rfl; have a5 := blk_cell ab 5 rfl
  have p0 := blk_froz ab 0; have p1 := blk_froz ab 1; have p2 := blk_froz ab 2; have p3 := blk_froz ab 3; have p4 := blk_froz ab 4; have p5 := blk_froz ab 5
  have x0 := set_same ab (j := 0) (u := .int .i64 11) rfl; have x1 := set_same ab (j := 1) (u := .int .i64 0) rfl; have x2 := set_same ab (j := 2) (u := .int .i64 0) rfl
  have x3 := set_same ab (j := 3) (u := .int .i64 0) rfl; have x4 := set_same ab (j := 4) (u := .string ⟨#[]⟩) rfl; have x5 := set_same ab (j := 5) (u := .slice none 0 0) rfl
  clear R1 N1 G1
  go_wp2_with fail
  refine (shapeOf_any 11 w2 (by omega)).mono ?_
  rintro E w3 ⟨rfl, b3⟩
  rw [show shV 11 = .agg #[.int .i64 1, .int .i64 999999999, .int .i64 999999999, .bool false, .bool false] by rfl]
  obtain ⟨w4, hw4, s4, b4, sb⟩ := blk_step w3 #[.int .i64 1, .int .i64 999999999, .int .i64 999999999, .bool false, .bool false] 89
  have b24 := b3.trans (b4.mono b3.size)
  have g3 := b3.size
  replace rb := (b24.block w.heap.size (by omega)).trans rb
  replace ab := (b24.block w1.heap.size (by omega)).trans ab
  have R4 := R2.below b24
  replace G0 := grown_trans G0 (grown_of_below b24 _)
  have d0 := blk_cell sb 0 rfl; have d1 := blk_cell sb 1 rfl; have d2 := blk_cell sb 2 rfl; have d3 := blk_cell sb 3 rfl; have d4 := blk_cell sb 4 rfl
  clear R2 b2 b3 b4 b24 a0 a1 a2 a3 a4 a5 p0 p1 p2 p3 p4 p5 x0 x1 x2 x3 x4 x5
  have p0 := blk_froz sb 0; have p1 := blk_froz sb 1; have p2 := blk_froz sb 2; have p3 := blk_froz sb 3; have p4 := blk_froz sb 4
  have x0 := set_same sb (j := 0) (u := .int .i64 1) rfl; have x1 := set_same sb (j := 1) (u := .int .i64 999999999) rfl; have x2 := set_same sb (j := 2) (u := .int .i64 999999999) rfl; have x3 := set_same sb (j := 3) (u := .bool false) rfl; have x4 := set_same sb (j := 4) (u := .bool false) rfl
  go_wp2_with fail
  refine (rnum_any w0 w4 g _ _ hv hz1 R4).mono ?_
  rintro E w5 ⟨xu, ok5, rfl, N5, R5, G5⟩
  have P5 := hide (numS_of (bad := false) N5)
  obtain ⟨b5, hb5⟩ : ∃ b, (false || ws.tail.isEmpty || !ok5) = b := ⟨_, rfl⟩
  rw [hb5] at R5 P5
  clear hb5
  replace rb := (G5.block w.heap.size (by omega) (by simp; omega)).trans rb
  replace ab := (G5.block w1.heap.size (by omega) (by simp; omega)).trans ab
  replace sb := (G5.block w3.heap.size (by omega) (by simp; omega)).trans sb
  replace G0 := grown_trans G0 G5
  have g5 := G5.size
  have e5 := blk_cell ab 1 rfl
  have f5 := blk_froz ab 1
  obtain ⟨v5, hv5⟩ : ∃ V, w5.setCell ⟨w1.heap.size, 1, none⟩ (.int .i64 xu) = V := ⟨_, rfl⟩
  have k5 : w5.grownBy v5 (some w1.heap.size) := by rw [← hv5]; exact grown_setCell _ _ _
  replace ab := set_cells ab 1 (.int .i64 xu)
  rw [hv5] at ab
  replace rb := (k5.block w.heap.size (by omega) (by simp; omega)).trans rb
  replace sb := (k5.block w3.heap.size (by omega) (by simp; omega)).trans sb
  have Q5 := R5.grown k5 (by omega) (by omega)
  have q5 := k5.size
  replace G0 := grown_fresh G0 k5 (by omega)
  have d0 := blk_cell sb 0 rfl; have d1 := blk_cell sb 1 rfl; have d2 := blk_cell sb 2 rfl; have d3 := blk_cell sb 3 rfl; have d4 := blk_cell sb 4 rfl
  have hz5 : ∀ s ∈ ws.tail.tail, s.size ≤ 65536 := fun s hs => hz1 s (List.mem_of_mem_tail hs)
  clear R5 G5 k5 N5 R4
  go_wp2_with fail
  refine (rnum_any w0 v5 g _ _ hv hz5 Q5).mono ?_
  rintro E w6 ⟨xn, ok6, rfl, N6, R6, G6⟩
  have P6 := hide (numS_of (bad := b5) N6)
  obtain ⟨b6, hb6⟩ : ∃ b, (b5 || ws.tail.tail.isEmpty || !ok6) = b := ⟨_, rfl⟩
  rw [hb6] at R6 P6
  clear hb6
  replace rb := (G6.block w.heap.size (by omega) (by simp; omega)).trans rb
  replace ab := (G6.block w1.heap.size (by omega) (by simp; omega)).trans ab
  replace sb := (G6.block w3.heap.size (by omega) (by simp; omega)).trans sb
  replace G0 := grown_trans G0 G6
  have g6 := G6.size
  have e6 := blk_cell ab 2 rfl
  have f6 := blk_froz ab 2
  obtain ⟨v6, hv6⟩ : ∃ V, w6.setCell ⟨w1.heap.size, 2, none⟩ (.int .i64 xn) = V := ⟨_, rfl⟩
  have k6 : w6.grownBy v6 (some w1.heap.size) := by rw [← hv6]; exact grown_setCell _ _ _
  replace ab := set_cells ab 2 (.int .i64 xn)
  rw [hv6] at ab
  replace rb := (k6.block w.heap.size (by omega) (by simp; omega)).trans rb
  replace sb := (k6.block w3.heap.size (by omega) (by simp; omega)).trans sb
  have Q6 := R6.grown k6 (by omega) (by omega)
  have q6 := k6.size
  replace G0 := grown_fresh G0 k6 (by omega)
  have d0 := blk_cell sb 0 rfl; have d1 := blk_cell sb 1 rfl; have d2 := blk_cell sb 2 rfl; have d3 := blk_cell sb 3 rfl; have d4 := blk_cell sb 4 rfl
  have hz6 : ∀ s ∈ ws.tail.tail.tail, s.size ≤ 65536 := fun s hs => hz5 s (List.mem_of_mem_tail hs)
  clear R6 G6 k6 N6 Q5
  go_wp2_with fail
  refine (rnum_any w0 v6 g _ _ hv hz6 Q6).mono ?_
  rintro E w7 ⟨xt, ok7, rfl, N7, R7, G7⟩
  have P7 := hide (numS_of (bad := b6) N7)
  obtain ⟨b7, hb7⟩ : ∃ b, (b6 || ws.tail.tail.tail.isEmpty || !ok7) = b := ⟨_, rfl⟩
  rw [hb7] at R7 P7
  clear hb7
  replace rb := (G7.block w.heap.size (by omega) (by simp; omega)).trans rb
  replace ab := (G7.block w1.heap.size (by omega) (by simp; omega)).trans ab
  replace sb := (G7.block w3.heap.size (by omega) (by simp; omega)).trans sb
  replace G0 := grown_trans G0 G7
  have g7 := G7.size
  have e7 := blk_cell ab 3 rfl
  have f7 := blk_froz ab 3
  obtain ⟨v7, hv7⟩ : ∃ V, w7.setCell ⟨w1.heap.size, 3, none⟩ (.int .i64 xt) = V := ⟨_, rfl⟩
  have k7 : w7.grownBy v7 (some w1.heap.size) := by rw [← hv7]; exact grown_setCell _ _ _
  replace ab := set_cells ab 3 (.int .i64 xt)
  rw [hv7] at ab
  replace rb := (k7.block w.heap.size (by omega) (by simp; omega)).trans rb
  replace sb := (k7.block w3.heap.size (by omega) (by simp; omega)).trans sb
  have Q7 := R7.grown k7 (by omega) (by omega)
  have q7 := k7.size
  replace G0 := grown_fresh G0 k7 (by omega)
  have d0 := blk_cell sb 0 rfl; have d1 := blk_cell sb 1 rfl; have d2 := blk_cell sb 2 rfl; have d3 := blk_cell sb 3 rfl; have d4 := blk_cell sb 4 rfl
  clear R7 G7 k7 N7 Q6
  have A6 := sx_of ab
  obtain ⟨A0, A1, A2, A3, A4, A5⟩ := A6
  obtain ⟨V', hV', gV, ⟨o0, o1, o2, o3, o4, o5⟩, fr, ⟨z0, z1, z2, z3, z4, z5⟩⟩ := putx rb (.int .i64 11) (.int .i64 xu) (.int .i64 xn) (.int .i64 xt) (.string ⟨#[]⟩) (.slice none 0 0)
  have fr0 := fr 0; have fr1 := fr 1; have fr2 := fr 2; have fr3 := fr 3; have fr4 := fr 4; have fr5 := fr 5
  have T := hide (show ARet w0 w g ws (.returned (acv ⟨11, xu, xn, xt, ⟨#[]⟩, []⟩ (.slice none 0 0))) V' from ⟨_, _, _, _, rfl, OwnO.nil _ _ _, actP_11 HE.out HK.out P5.out P6.out P7.out, Q7.grown gV hw0 (by omega), grown_fresh G0 gV (Nat.le_refl _)⟩)
  unfold acv acc at T
  clear G0 gV rb ab sb Q7
  go_wp2
  refine bodyPost_ret (v := .agg #[.int .i64 11, .int .i64 xu, .int .i64 xn, .int .i64 xt, .string ⟨#[]⟩, .slice none 0 0]) (by simp [results, Tryz.results24, go_sem, z0, z1, z2, z3, z4, z5]) rfl ?_
  exact T.out

set_option maxHeartbeats 4000000 in
theorem ract_12 (w0 w : World) (g : Nat) (ws : List ByteArray) (hv : Vs w0) (hz : ∀ s ∈ ws, s.size ≤ 65536) (hl : ws.length ≤ 65536) (hne : ws ≠ []) (hk : kd (ws.headD ⟨#[]⟩).data.toList = 12) (h : Rd w0 w g ws false) :
    Calls Tryz.prog 24 #[.pointer (some ⟨g, 0, none⟩)] w (ARet w0 w g ws) := by
  obtain ⟨W, hW, szW, belW, rb⟩ := blk_step w #[.int .i64 0, .int .i64 0, .int .i64 0, .int .i64 0, .string ⟨#[]⟩, .slice none 0 0] 24
  have hgl := h.lt
  have hw0 := h.bel.size
  have hW1 := hide (rword_any w0 W g ws false (h.below belW))
  have HZ := hide hz
  have HK := hide hk
  have HE := hide hne
  have hb1 : (false || ws.isEmpty) = false := by
    cases ws with
    | nil => exact absurd rfl hne
    | cons a r => rfl
  rw [hb1] at hW1
  obtain ⟨s, hs⟩ : ∃ s, ws.headD ⟨#[]⟩ = s := ⟨_, rfl⟩
  rw [hs] at hW1 hk
  have hlt1 : ws.tail.length ≤ 65536 := by rw [List.length_tail]; omega
  have hz1 : ∀ s ∈ ws.tail, s.size ≤ 65536 := fun s hs => hz s (List.mem_of_mem_tail hs)
  have G0 := grown_of_below belW (some g)
  clear h hz hne hs hb1 belW
  go_enter Tryz.func24, Tryz.ntmps24
  go_wp2_with fail
  refine hW1.out.mono ?_
  rintro E w1 ⟨rfl, R1, G1⟩
  have g1 := G1.size
  replace rb := (G1.block w.heap.size (by omega) (by simp; omega)).trans rb
  replace G0 := grown_trans G0 G1
  have N1 := (hv.below R1.bel).nms
  clear hW1
  go_wp2_with fail
  refine (kindOf_any s w1 N1).mono ?_
  rintro E wx ⟨rfl, rfl⟩
  rw [hk]
  obtain ⟨w2, hw2, s2, b2, ab⟩ := blk_step w1 #[.int .i64 12, .int .i64 0, .int .i64 0, .int .i64 0, .string ⟨#[]⟩, .slice none 0 0] 24
  replace rb := (b2.block w.heap.size (by omega)).trans rb
  have R2 := R1.below b2
  replace G0 := grown_trans G0 (grown_of_below b2 _)
  have a0 := blk_cell ab 0 rfl; have a1 := blk_cell ab 1 rfl; have a2 := blk_cell ab 2 rfl; have a3 := blk_cell ab 3 rfl; have a4 := blk_cell ab 4 rfl; have a5 := blk_cell ab 5 rfl
  have p0 := blk_froz ab 0; have p1 := blk_froz ab 1; have p2 := blk_froz ab 2; have p3 := blk_froz ab 3; have p4 := blk_froz ab 4; have p5 := blk_froz ab 5
  have x0 := set_same ab (j := 0) (u := .int .i64 12) rfl; have x1 := set_same ab (j := 1) (u := .int .i64 0) rfl; have x2 := set_same ab (j := 2) (u := .int .i64 0) rfl
  have x3 := set_same ab (j := 3) (u := .int .i64 0) rfl; have x4 := set_same ab (j := 4) (u := .string ⟨#[]⟩) rfl; have x5 := set_same ab (j := 5) (u := .slice none 0 0) rfl
  clear R1 N1 G1
  go_wp2_with fail
  refine (shapeOf_any 12 w2 (by omega)).mono ?_
  rintro E w3 ⟨rfl, b3⟩
  rw [show shV 12 = .agg #[.int .i64 0, .int .i64 0, .int .i64 0, .bool false, .bool false] by rfl]
  obtain ⟨w4, hw4, s4, b4, sb⟩ := blk_step w3 #[.int .i64 0, .int .i64 0, .int .i64 0, .bool false, .bool false] 89
  have b24 := b3.trans (b4.mono b3.size)
  have g3 := b3.size
  replace rb := (b24.block w.heap.size (by omega)).trans rb
  replace ab := (b24.block w1.heap.size (by omega)).trans ab
  have R4 := R2.below b24
  replace G0 := grown_trans G0 (grown_of_below b24 _)
  have d0 := blk_cell sb 0 rfl; have d1 := blk_cell sb 1 rfl; have d2 := blk_cell sb 2 rfl; have d3 := blk_cell sb 3 rfl; have d4 := blk_cell sb 4 rfl
  clear R2 b2 b3 b4 b24 a0 a1 a2 a3 a4 a5 p0 p1 p2 p3 p4 p5 x0 x1 x2 x3 x4 x5
  have p0 := blk_froz sb 0; have p1 := blk_froz sb 1; have p2 := blk_froz sb 2; have p3 := blk_froz sb 3; have p4 := blk_froz sb 4
  have x0 := set_same sb (j := 0) (u := .int .i64 0) rfl; have x1 := set_same sb (j := 1) (u := .int .i64 0) rfl; have x2 := set_same sb (j := 2) (u := .int .i64 0) rfl; have x3 := set_same sb (j := 3) (u := .bool false) rfl; have x4 := set_same sb (j := 4) (u := .bool false) rfl
  have A6 := sx_of ab
  obtain ⟨A0, A1, A2, A3, A4, A5⟩ := A6
  obtain ⟨V', hV', gV, ⟨o0, o1, o2, o3, o4, o5⟩, fr, ⟨z0, z1, z2, z3, z4, z5⟩⟩ := putx rb (.int .i64 12) (.int .i64 0) (.int .i64 0) (.int .i64 0) (.string ⟨#[]⟩) (.slice none 0 0)
  have fr0 := fr 0; have fr1 := fr 1; have fr2 := fr 2; have fr3 := fr 3; have fr4 := fr 4; have fr5 := fr 5
  have T := hide (show ARet w0 w g ws (.returned (acv ⟨12, 0, 0, 0, ⟨#[]⟩, []⟩ (.slice none 0 0))) V' from ⟨_, _, _, _, rfl, OwnO.nil _ _ _, actP_12 HE.out HK.out, R4.grown gV hw0 (by omega), grown_fresh G0 gV (Nat.le_refl _)⟩)
  unfold acv acc at T
  clear G0 gV rb ab sb R4
  go_wp2
  refine bodyPost_ret (v := .agg #[.int .i64 12, .int .i64 0, .int .i64 0, .int .i64 0, .string ⟨#[]⟩, .slice none 0 0]) (by simp [results, Tryz.results24, go_sem, z0, z1, z2, z3, z4, z5]) rfl ?_
  exact T.out

theorem ract_any (w0 w : World) (g : Nat) (ws : List ByteArray) (hv : Vs w0) (hz : ∀ s ∈ ws, s.size ≤ 65536) (hl : ws.length ≤ 65536) (hne : ws ≠ []) (h : Rd w0 w g ws false) :
    Calls Tryz.prog 24 #[.pointer (some ⟨g, 0, none⟩)] w (ARet w0 w g ws) := by
  rcases kind_of12 (kd_bounds (ws.headD ⟨#[]⟩).data.toList) with k | k | k | k | k | k | k | k | k | k | k | k | k
  · exact ract_0 w0 w g ws hv hz hl hne k h
  · exact ract_1 w0 w g ws hv hz hl hne k h
  · exact ract_2 w0 w g ws hv hz hl hne k h
  · exact ract_3 w0 w g ws hv hz hl hne k h
  · exact ract_4 w0 w g ws hv hz hl hne k h
  · exact ract_5 w0 w g ws hv hz hl hne k h
  · exact ract_6 w0 w g ws hv hz hl hne k h
  · exact ract_7 w0 w g ws hv hz hl hne k h
  · exact ract_8 w0 w g ws hv hz hl hne k h
  · exact ract_9 w0 w g ws hv hz hl hne k h
  · exact ract_10 w0 w g ws hv hz hl hne k h
  · exact ract_11 w0 w g ws hv hz hl hne k h
  · exact ract_12 w0 w g ws hv hz hl hne k h

end Go.Proofs.YtdlogcdpapknaaaGreatDoor
