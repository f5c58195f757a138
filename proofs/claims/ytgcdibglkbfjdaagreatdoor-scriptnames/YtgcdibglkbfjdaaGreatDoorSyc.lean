/- Package script (layer 25): the statement of the chapter's examples. -/
import Derived.Test.YtgcdibglkbfjdaaGreatDoorSyb
import Derived.Test.YtgcdibglkbfjdaaGreatDoorSxv
namespace Go.Proofs.YtgcdibglkbfjdaaGreatDoor
open Go.RowKit
set_option linter.unusedVariables false
set_option maxRecDepth 100000

theorem rep_any (s : ByteArray) (c : Nat) (k : Int) (w : World) (hk : k = c) (hc : s.size * c ≤ 140737488351232) (hc2 : c ≤ 1000000) : ∃ r : ByteArray, r.data.toList = Lib.repeatL s.data.toList c ∧ r.size = c * s.size ∧ Calls Tryz.prog 11 #[.string s, .int .i64 k] w fun E w' => E = .returned (.string r) ∧ Below w.heap.size w w' := by
  subst hk
  refine ⟨⟨(Lib.repeatL s.data.toList c).toArray⟩, rfl, ?_, Tryz.strings_Repeat s c w (by omega) (by omega)⟩
  rw [Lib.size_eq, Lib.size_eq]
  exact Lib.repeatL_length _ _

/-- The lines that are refused. -/
def badl : List ByteArray := [⟨#[116, 105, 99, 107, 32, 50]⟩, ⟨#[116, 105, 99, 107, 32, 48, 49]⟩, ⟨#[99, 111, 109, 109, 105, 116, 32, 48]⟩, ⟨#[99, 111, 109, 109, 105, 116, 32, 48, 32, 112, 117, 116, 32, 97]⟩, ⟨#[100, 101, 108, 105, 118, 101, 114, 32, 45, 49]⟩, ⟨#[114, 111, 117, 110, 100, 32, 49]⟩, ⟨#[116, 105, 99, 107, 32, 48, 10]⟩, ⟨#[84, 105, 99, 107, 32, 48]⟩]
theorem badl_all : ∀ s ∈ badl, s.data.toList.length ≤ 65536 ∧ ¬ Sct.Rem s.data.toList ∧ ∀ b, Sct.Ok b → Sct.txt b ≠ Sct.wds s.data.toList := by
  intro s hs
  simp only [badl, List.mem_cons, List.not_mem_nil, or_false] at hs
  rcases hs with rfl | rfl | rfl | rfl | rfl | rfl | rfl | rfl
  · exact ⟨by decide, rem_no (show Sct.wds _ = [[116, 105, 99, 107], [50]] by decide) (by decide), fun b hb => bad_two hb⟩
  · exact ⟨by decide, rem_no (show Sct.wds _ = [[116, 105, 99, 107], [48, 49]] by decide) (by decide), fun b hb => bad_one hb⟩
  · exact ⟨by decide, rem_no (show Sct.wds _ = [[99, 111, 109, 109, 105, 116], [48]] by decide) (by decide), fun b hb => bad_bare hb⟩
  · exact ⟨by decide, rem_no (show Sct.wds _ = [[99, 111, 109, 109, 105, 116], [48], [112, 117, 116], [97]] by decide) (by decide), fun b hb => bad_put hb⟩
  · exact ⟨by decide, rem_no (show Sct.wds _ = [[100, 101, 108, 105, 118, 101, 114], [45, 49]] by decide) (by decide), fun b hb => bad_deliver hb⟩
  · exact ⟨by decide, rem_no (show Sct.wds _ = [[114, 111, 117, 110, 100], [49]] by decide) (by decide), fun b hb => bad_round hb⟩
  · exact ⟨by decide, rem_no (show Sct.wds _ = [[116, 105, 99, 107], [48, 10]] by decide) (by decide), fun b hb => bad_end hb⟩
  · exact ⟨by decide, rem_no (show Sct.wds _ = [[84, 105, 99, 107], [48]] by decide) (by decide), fun b hb => bad_big hb⟩

/-- Line at a line whose act is known. -/
theorem line_yes (s : ByteArray) (b : Sct.Av) (w : World) (hs : s.size ≤ 65536) (hv : Vs w) (hb : Sct.Ok b) (ht : Sct.txt b = Sct.wds s.data.toList) : Calls Tryz.prog 7 #[.string s] w fun E w' => ∃ oa oc, E = .returned (.tuple #[.agg #[.int .i64 b.k, .int .i64 b.u, .int .i64 b.n, .int .i64 b.t, .string b.key, .slice oa b.ops.length oc], .bool true, .int .i64 0]) ∧ IsO w' (.slice oa b.ops.length oc) b.ops ∧ Below w.heap.size w w' := by
  refine (line_any s w (by omega) hv).mono ?_
  rintro E w1 ⟨a, v, th, e, rfl, own, lr, b1⟩
  obtain ⟨rfl, rfl, rfl⟩ := lrp_yes lr (by rw [← Lib.size_eq]; exact hs) hb ht
  have is1 := own.is
  obtain ⟨oa, oc, rfl, _, _⟩ := is1.shape
  exact ⟨oa, oc, rfl, is1, b1⟩
theorem line_no (s : ByteArray) (e : Int) (w : World) (hs : s.size ≤ 65536) (hv : Vs w) (he : ∀ a th f, LRp s.data.toList a th f → a = Sct.no ∧ th = false ∧ f = e) : Calls Tryz.prog 7 #[.string s] w fun E w' => ∃ oa oc, E = .returned (.tuple #[.agg #[.int .i64 0, .int .i64 0, .int .i64 0, .int .i64 0, .string ⟨#[]⟩, .slice oa 0 oc], .bool false, .int .i64 e]) ∧ Below w.heap.size w w' := by
  refine (line_any s w (by omega) hv).mono ?_
  rintro E w1 ⟨a, v, th, f, rfl, own, lr, b1⟩
  obtain ⟨rfl, rfl, rfl⟩ := he _ _ _ lr
  have is1 := own.is
  obtain ⟨oa, oc, rfl, _, _⟩ := is1.shape
  exact ⟨oa, oc, rfl, b1⟩

/-- Parse at a text whose acts are known. -/
theorem parse_is (s : ByteArray) (l : List Sct.Av) (p e : Int) (w : World) (hs : s.size ≤ 140737488351232) (hv : Vs w) (hp : Sct.PRes s.data.toList l p e) : Calls Tryz.prog 10 #[.string s] w fun E w' => ∃ oa oc ev, E = .returned (.tuple #[.slice oa l.length oc, ev]) ∧ ErrV w' ev p e ∧ Below w.heap.size w w' := by
  refine (parse_any s w hs hv).mono ?_
  rintro E w3 ⟨v3, ev, l3, p3, e3, rfl, own3, er, pr, b3⟩
  obtain ⟨rfl, rfl, rfl⟩ := Sct.pres_one pr hp
  obtain ⟨oa, oc, rfl, _, _⟩ := own3.is.1.shape
  exact ⟨oa, oc, ev, by rw [List.length_map], er, b3⟩

theorem rows_cells (w : World) (cs : List ByteArray) (n : Nat) (hn : cs.length = n) (h : n ≤ 1000) : ∃ W, w.alloc (.cells (cs.map Value.string).toArray 9) = W ∧ W.heap.size = w.heap.size + 1 ∧ Below w.heap.size w W ∧ ∀ i x, cs[i]? = some x → W.cell? ⟨w.heap.size, i, none⟩ = some (.string x) := by
  obtain ⟨W, hW, s1, b1, own⟩ := rows_step fsc 1 fsc_len 9 w (cs.map Value.string).toArray n cs hn (by
    clear hn h
    show cs.map Value.string = gcells fsc cs
    induction cs with
    | nil => rfl
    | cons a r ih => rw [List.map_cons, ih]; rfl) (by unfold maxLen; omega)
  refine ⟨W, hW, s1, b1, fun i x hx => ?_⟩
  have := own.at fsc_len (i := i) (a := x) hx (j := 0) (u := .string x) rfl
  simpa using this

set_option maxHeartbeats 8000000 in
theorem scriptNames_walk (w : World) (hv : Vs w) : Calls Tryz.prog 3 #[] w fun E w' => E = .returned (.bool true) ∧ Below w.heap.size w w' := by
  have V0 := hide hv
  have LA := hide (line_yes ⟨#[115, 116, 97, 114, 116, 32, 49, 32, 50, 32, 51]⟩ axS w (by decide) hv ok_axS tx_axS)
  clear hv
  go_enter Tryz.func3, Tryz.ntmps3
  go_wp2_with fail
  refine LA.out.mono ?_
  rintro E w1 ⟨oa, oc, rfl, is1, b1⟩
  obtain ⟨w2, hw2, s2, b2, P2⟩ := blk_step w1 #[.int .i64 11, .int .i64 1, .int .i64 2, .int .i64 3, .string ⟨#[]⟩, .slice oa 0 oc] 24
  simp only [show axS.k = 11 from rfl, show axS.u = 1 from rfl, show axS.n = 2 from rfl, show axS.t = 3 from rfl, show axS.key = ⟨#[]⟩ from rfl, show axS.ops.length = 0 from rfl]
  have z := sx_of P2
  obtain ⟨z0, z1, z2, z3, z4, z5⟩ := z
  have p0 := blk_froz P2 0; have p1 := blk_froz P2 1; have p2 := blk_froz P2 2; have p3 := blk_froz P2 3; have p4 := blk_froz P2 4; have p5 := blk_froz P2 5
  have x0 := set_same P2 (j := 0) (u := .int .i64 11) rfl; have x1 := set_same P2 (j := 1) (u := .int .i64 1) rfl; have x2 := set_same P2 (j := 2) (u := .int .i64 2) rfl; have x3 := set_same P2 (j := 3) (u := .int .i64 3) rfl; have x4 := set_same P2 (j := 4) (u := .string ⟨#[]⟩) rfl; have x5 := set_same P2 (j := 5) (u := .slice oa 0 oc) rfl
  have ISA := hide (is1.below b2)
  have BB2 := hide (b1.trans (b2.mono b1.size))
  have PA := hide P2
  have LB := hide (line_yes ⟨#[32, 32, 114, 111, 117, 110, 100, 32]⟩ axR w2 (by decide) (V0.out.below BB2.out) ok_axR tx_axR)
  clear is1 b1 b2 P2 LA
  go_wp2_with fail
  refine LB.out.mono ?_
  rintro E w3 ⟨ob, od, rfl, is3, b3⟩
  obtain ⟨w4, hw4, s4, b4, P4⟩ := blk_step w3 #[.int .i64 12, .int .i64 0, .int .i64 0, .int .i64 0, .string ⟨#[]⟩, .slice ob 0 od] 24
  simp only [show axR.k = 12 from rfl, show axR.u = 0 from rfl, show axR.n = 0 from rfl, show axR.t = 0 from rfl, show axR.key = ⟨#[]⟩ from rfl, show axR.ops.length = 0 from rfl]
  clear z0 z1 z2 z3 z4 z5 p0 p1 p2 p3 p4 p5 x0 x1 x2 x3 x4 x5
  have z := sx_of P4
  obtain ⟨z0, z1, z2, z3, z4, z5⟩ := z
  have p0 := blk_froz P4 0; have p1 := blk_froz P4 1; have p2 := blk_froz P4 2; have p3 := blk_froz P4 3; have p4 := blk_froz P4 4; have p5 := blk_froz P4 5
  have x0 := set_same P4 (j := 0) (u := .int .i64 12) rfl; have x1 := set_same P4 (j := 1) (u := .int .i64 0) rfl; have x2 := set_same P4 (j := 2) (u := .int .i64 0) rfl; have x3 := set_same P4 (j := 3) (u := .int .i64 0) rfl; have x4 := set_same P4 (j := 4) (u := .string ⟨#[]⟩) rfl; have x5 := set_same P4 (j := 5) (u := .slice ob 0 od) rfl
  have bs3 := BB2.out.size
  have b24 := b3.trans (b4.mono b3.size)
  have ISA4 := hide (ISA.out.below b24)
  have ISB := hide (is3.below b4)
  have PA4 := hide ((b24.block _ (blk_lt PA.out)).trans PA.out)
  have PB := hide P4
  have BB4 := hide (BB2.out.trans (b24.mono bs3))
  have LC := hide (line_no ⟨#[35, 32, 120]⟩ 0 w4 (by decide) (V0.out.below BB4.out) fun a th f h => lrp_none h (by decide) (.inr ⟨[35], [[120]], by decide, rfl⟩))
  clear is3 b3 b4 b24 P4 LB ISA PA
  go_wp2_with fail
  refine LC.out.mono ?_
  rintro E w5 ⟨o5, c5, rfl, b5⟩
  obtain ⟨w6, hw6, s6, b6, P6⟩ := blk_step w5 #[.int .i64 0, .int .i64 0, .int .i64 0, .int .i64 0, .string ⟨#[]⟩, .slice o5 0 c5] 24
  clear z0 z1 z2 z3 z4 z5 p0 p1 p2 p3 p4 p5 x0 x1 x2 x3 x4 x5
  have z := sx_of P6
  obtain ⟨z0, z1, z2, z3, z4, z5⟩ := z
  have p0 := blk_froz P6 0; have p1 := blk_froz P6 1; have p2 := blk_froz P6 2; have p3 := blk_froz P6 3; have p4 := blk_froz P6 4; have p5 := blk_froz P6 5
  have x0 := set_same P6 (j := 0) (u := .int .i64 0) rfl; have x1 := set_same P6 (j := 1) (u := .int .i64 0) rfl; have x2 := set_same P6 (j := 2) (u := .int .i64 0) rfl; have x3 := set_same P6 (j := 3) (u := .int .i64 0) rfl; have x4 := set_same P6 (j := 4) (u := .string ⟨#[]⟩) rfl; have x5 := set_same P6 (j := 5) (u := .slice o5 0 c5) rfl
  have b46 := hide (b5.trans (b6.mono b5.size))
  have BB6 := hide (BB4.out.trans (b46.out.mono BB4.out.size))
  have LD := hide (line_no ⟨#[]⟩ 0 w6 (by decide) (V0.out.below BB6.out) fun a th f h => lrp_none h (by decide) (.inl (by decide)))
  clear b5 b6 P6 LC
  go_wp2_with fail
  refine LD.out.mono ?_
  rintro E w7 ⟨o7, c7, rfl, b7⟩
  obtain ⟨w8, hw8, s8, b8, P8⟩ := blk_step w7 #[.int .i64 0, .int .i64 0, .int .i64 0, .int .i64 0, .string ⟨#[]⟩, .slice o7 0 c7] 24
  clear z0 z1 z2 z3 z4 z5 p0 p1 p2 p3 p4 p5 x0 x1 x2 x3 x4 x5
  have z := sx_of P8
  obtain ⟨z0, z1, z2, z3, z4, z5⟩ := z
  have p0 := blk_froz P8 0; have p1 := blk_froz P8 1; have p2 := blk_froz P8 2; have p3 := blk_froz P8 3; have p4 := blk_froz P8 4; have p5 := blk_froz P8 5
  have x0 := set_same P8 (j := 0) (u := .int .i64 0) rfl; have x1 := set_same P8 (j := 1) (u := .int .i64 0) rfl; have x2 := set_same P8 (j := 2) (u := .int .i64 0) rfl; have x3 := set_same P8 (j := 3) (u := .int .i64 0) rfl; have x4 := set_same P8 (j := 4) (u := .string ⟨#[]⟩) rfl; have x5 := set_same P8 (j := 5) (u := .slice o7 0 c7) rfl
  have b48 := hide (b46.out.trans ((b7.trans (b8.mono b7.size)).mono b46.out.size))
  have BB8 := hide (BB4.out.trans (b48.out.mono BB4.out.size))
  have PA8 := (b48.out.block _ (blk_lt PA4.out)).trans PA4.out
  have PB8 := (b48.out.block _ (blk_lt PB.out)).trans PB.out
  have PB8h := hide PB8
  have ISA8 := ISA4.out.below b48.out
  have ISB8 := hide (ISB.out.below b48.out)
  have qa := sx_of PA8
  obtain ⟨a0, a1, a2, a3, a4, a5⟩ := qa
  have SA := hide (same_yes axS _ (.slice none 0 0) w8 ISA8 (IsO.nil _) (by decide))
  rw [show acv axS (.slice oa axS.ops.length oc) = .agg #[.int .i64 11, .int .i64 1, .int .i64 2, .int .i64 3, .string ⟨#[]⟩, .slice oa 0 oc] from rfl, show acv axS (.slice none 0 0) = .agg #[.int .i64 11, .int .i64 1, .int .i64 2, .int .i64 3, .string ⟨#[]⟩, .slice none 0 0] from rfl] at SA
  clear b7 b8 P8 LD b46 ISA4 ISB PA4 PB PA8 PB8 ISA8
  go_wp2_with fail
  refine SA.out.mono ?_
  rintro E w9 ⟨rfl, b9⟩
  have PB9 := (b9.block _ (blk_lt PB8h.out)).trans PB8h.out
  have BB9 := hide (BB8.out.trans (b9.mono BB8.out.size))
  have qb := sx_of PB9
  clear a0 a1 a2 a3 a4 a5
  obtain ⟨a0, a1, a2, a3, a4, a5⟩ := qb
  have SB := hide (same_yes axR _ (.slice none 0 0) w9 (ISB8.out.below b9) (IsO.nil _) (by decide))
  rw [show acv axR (.slice ob axR.ops.length od) = .agg #[.int .i64 12, .int .i64 0, .int .i64 0, .int .i64 0, .string ⟨#[]⟩, .slice ob 0 od] from rfl, show acv axR (.slice none 0 0) = .agg #[.int .i64 12, .int .i64 0, .int .i64 0, .int .i64 0, .string ⟨#[]⟩, .slice none 0 0] from rfl] at SB
  clear b9 SA PB9 ISB8 z0 z1 z2 z3 z4 z5 p0 p1 p2 p3 p4 p5 x0 x1 x2 x3 x4 x5
  go_wp2_with fail
  refine SB.out.mono ?_
  rintro E w10 ⟨rfl, b10⟩
  obtain ⟨w11, hw11, s11, b11, RC⟩ := rows_cells w10 badl 8 rfl (by decide)
  have BB10 := hide (BB9.out.trans (b10.mono BB9.out.size))
  have BB11 := hide (BB10.out.trans (b11.mono BB10.out.size))
  have sz11 := BB11.out.size
  rw [show (badl.map Value.string).toArray = #[.string ⟨#[116, 105, 99, 107, 32, 50]⟩, .string ⟨#[116, 105, 99, 107, 32, 48, 49]⟩, .string ⟨#[99, 111, 109, 109, 105, 116, 32, 48]⟩, .string ⟨#[99, 111, 109, 109, 105, 116, 32, 48, 32, 112, 117, 116, 32, 97]⟩, .string ⟨#[100, 101, 108, 105, 118, 101, 114, 32, 45, 49]⟩, .string ⟨#[114, 111, 117, 110, 100, 32, 49]⟩, .string ⟨#[116, 105, 99, 107, 32, 48, 10]⟩, .string ⟨#[84, 105, 99, 107, 32, 48]⟩] from rfl] at hw11
  clear b10 b11 SB a0 a1 a2 a3 a4 a5
  have RCC := hide (fun (W : World) (hW : Below w11.heap.size w11 W) (i : Nat) (x : ByteArray) (hx : badl[i]? = some x) => (hW.cell (p := ⟨w10.heap.size, i, none⟩) (by show w10.heap.size < _; omega)).trans (RC i x hx))
  clear RC
  go_wp2
  go_loopw [88] (fun iv wr => ∃ i : Nat, i ≤ 8 ∧ iv = .int .i64 i ∧ Below w11.heap.size w11 wr) (fun iv _ => 8 - (intOf iv).toNat)
  case atStart => exact ⟨0, by omega, rfl, Below.refl _ _⟩
  case round =>
    obtain ⟨i, hi, rfl, bel⟩ := hrel
    have bls := bel.size
    have BW := hide (BB11.out.trans (bel.mono sz11))
    by_cases hlt : i < 8
    · have hlt' : (i : Int) < 8 := by omega
      obtain ⟨x, hx⟩ : ∃ x, badl[i]? = some x := ⟨badl[i]'hlt, List.getElem?_eq_getElem _⟩
      have cx := RCC.out wr bel i x hx
      obtain ⟨y1, y2, y3⟩ := badl_all x (List.mem_of_getElem? hx)
      have LX := hide (line_no x 350 wr (by rw [Lib.size_eq]; exact y1) (V0.out.below BW.out) fun a th f h => lrp_bad h y1 y2 y3)
      have BEL := hide bel
      clear hx y1 y2 y3 bel
      go_wp2_with fail
      refine LX.out.mono ?_
      rintro E wa ⟨o8, c8, rfl, ba⟩
      obtain ⟨wb, hwb, sb, bb, Pb⟩ := blk_step wa #[.int .i64 0, .int .i64 0, .int .i64 0, .int .i64 0, .string ⟨#[]⟩, .slice o8 0 c8] 24
      have z := sx_of Pb
      obtain ⟨z0, z1, z2, z3, z4, z5⟩ := z
      have p0 := blk_froz Pb 0; have p1 := blk_froz Pb 1; have p2 := blk_froz Pb 2; have p3 := blk_froz Pb 3; have p4 := blk_froz Pb 4; have p5 := blk_froz Pb 5
      have x0 := set_same Pb (j := 0) (u := .int .i64 0) rfl; have x1 := set_same Pb (j := 1) (u := .int .i64 0) rfl; have x2 := set_same Pb (j := 2) (u := .int .i64 0) rfl; have x3 := set_same Pb (j := 3) (u := .int .i64 0) rfl; have x4 := set_same Pb (j := 4) (u := .string ⟨#[]⟩) rfl; have x5 := set_same Pb (j := 5) (u := .slice o8 0 c8) rfl
      have BN := hide (BEL.out.trans ((ba.trans (bb.mono ba.size)).mono bls))
      clear ba bb Pb LX cx
      go_wp2
      go_roundw
      case rel => exact ⟨i + 1, by omega, by go_num, BN.out⟩
      case measure => simp [intOf]; omega
    · have hlt' : ¬ (i : Int) < 8 := by omega
      clear bel RCC
      obtain ⟨wa, hwa, sa, ba, own⟩ := rows_step aca 6 aca_len 24 wr #[.int .i64 2, .int .i64 1, .int .i64 0, .int .i64 0, .string ⟨#[97, 32]⟩, .slice none 0 0] 1 [⟨axA, .slice none 0 0⟩] rfl rfl (by simp [maxLen])
      have BA := hide (BW.out.trans (ba.mono BW.out.size))
      have PT := hide (print_any _ [⟨axA, .slice none 0 0⟩] wa (V0.out.below BA.out) ⟨own.row, fun x hx => by rw [List.mem_singleton.1 hx]; exact IsO.nil _⟩ (fun x hx => by rw [List.mem_singleton.1 hx]; exact ⟨fun o ho => by simp [axA] at ho, by decide, by decide⟩) (by decide))
      clear ba own
      go_wp2_with fail
      refine PT.out.mono ?_
      rintro E wb ⟨s, v, p, e, rfl, er, pr, bb⟩
      obtain ⟨hs, rfl⟩ := prr_axA (show Sct.PrRes [axA] s.data.toList p e from pr)
      obtain rfl : s = ⟨#[114, 101, 97, 100, 32, 49, 32, 97, 92, 50, 48, 10]⟩ := Sct.ba_ext hs
      obtain rfl : v = .nilIface := by
        rcases er with ⟨_, h⟩ | ⟨h, _⟩
        · exact h
        · exact absurd rfl h
      have BB := hide (BA.out.trans (bb.mono BA.out.size))
      obtain ⟨r1, hr1, hl1, R1⟩ := rep_any ⟨#[114, 111, 117, 110, 100, 10]⟩ 201 201 wb rfl (by decide) (by decide)
      have RP := hide R1
      have hr1' : r1.data.toList = Lib.repeatL [114, 111, 117, 110, 100, 10] 201 := hr1
      have hz1 : r1.size = 1206 := hl1
      have HR1 := hide hr1'
      clear er pr bb hs PT R1 hr1 hl1 hr1'
      go_wp2_with fail
      refine RP.out.mono ?_
      rintro E wc ⟨rfl, bc⟩
      have BC := hide (BB.out.trans (bc.mono BB.out.size))
      have PR1 := hide (parse_is r1 [] 200 3 wc (by omega) (V0.out.below BC.out) (by rw [HR1.out]; exact pres_201))
      clear bc RP
      go_wp2_with fail
      refine PR1.out.mono ?_
      rintro E wd ⟨oe, ce, e1, rfl, er1, bd⟩
      have BD := hide (BC.out.trans (bd.mono BC.out.size))
      have ER1 := hide er1
      obtain ⟨r2, hr2, hl2, R2⟩ := rep_any ⟨#[114, 111, 117, 110, 100, 10]⟩ 200 200 wd rfl (by decide) (by decide)
      have RP := hide R2
      have hr2' : r2.data.toList = Lib.repeatL [114, 111, 117, 110, 100, 10] 200 := hr2
      have hz2 : r2.size = 1200 := hl2
      have HR2 := hide hr2'
      rw [show ([] : List Sct.Av).length = 0 from rfl]
      clear bd er1 PR1 R2 hr2 hl2 hr2'
      go_wp2_with fail
      refine RP.out.mono ?_
      rintro E we ⟨rfl, be⟩
      have BE := hide (BD.out.trans (be.mono BD.out.size))
      have ER2 := hide (ER1.out.below be)
      have PR2 := hide (parse_is r2 (List.replicate 200 axR) 0 0 we (by omega) (V0.out.below BE.out) (by rw [HR2.out]; exact pres_200))
      rw [List.length_replicate] at PR2
      clear be RP ER1
      go_wp2_with fail
      refine PR2.out.mono ?_
      rintro E wf ⟨of, cf, e2, rfl, er2, bf⟩
      obtain rfl : e2 = .nilIface := by
        rcases er2 with ⟨_, h⟩ | ⟨h, _⟩
        · exact h
        · exact absurd rfl h
      have BF := hide (BE.out.trans (bf.mono BE.out.size))
      have ER3 := hide (ER2.out.below bf)
      obtain ⟨r3, hr3, hl3, R3⟩ := rep_any ⟨#[120]⟩ 65537 65537 wf rfl (by decide) (by decide)
      have RP := hide R3
      have hr3' : r3.data.toList = Lib.repeatL [120] 65537 := hr3
      have hz3 : r3.size = 65537 := hl3
      have HR3 := hide hr3'
      clear bf er2 PR2 ER2 R3 hr3 hl3 hr3'
      go_wp2_with fail
      refine RP.out.mono ?_
      rintro E wg ⟨rfl, bg⟩
      have BG := hide (BF.out.trans (bg.mono BF.out.size))
      have ER4 := hide (ER3.out.below bg)
      have PR3 := hide (parse_is r3 [] (-1) 3 wg (by omega) (V0.out.below BG.out) (by rw [HR3.out]; exact pres_long))
      clear bg RP ER3
      go_wp2_with fail
      refine PR3.out.mono ?_
      rintro E wh ⟨oh, ch, e3, rfl, er3, bh⟩
      have BH := hide (BG.out.trans (bh.mono BG.out.size))
      have ER5 := hide (ER4.out.below bh)
      have EX := hide er3
      have LV := hide (lives_any wh (V0.out.below BH.out))
      rw [show ([] : List Sct.Av).length = 0 from rfl]
      clear bh er3 PR3 ER4
      go_wp2_with fail
      refine LV.out.mono ?_
      rintro E wi ⟨rfl, bi⟩
      have BI := hide (BH.out.trans (bi.mono BH.out.size))
      have EX2 := hide (EX.out.below bi)
      have WY := hide (wrong_yes e1 200 3 wi (V0.out.below BI.out) (ER5.out.below bi))
      clear bi LV ER5 EX
      go_wp2_with fail
      refine WY.out.mono ?_
      rintro E wj ⟨rfl, bj⟩
      have BJ := hide (BI.out.trans (bj.mono BI.out.size))
      have WZ := hide (wrong_yes e3 (-1) 3 wj (V0.out.below BJ.out) (EX2.out.below bj))
      clear bj WY EX2
      go_wp2_with fail
      refine WZ.out.mono ?_
      rintro E wk ⟨rfl, bk⟩
      have BK := hide (BJ.out.trans (bk.mono BJ.out.size))
      clear bk WZ
      go_wp2
      go_ret
      exact ⟨rfl, BK.out⟩

end Go.Proofs.YtgcdibglkbfjdaaGreatDoor
