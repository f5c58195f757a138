/- The law's pair: the next commit is appended to both; the first is handed a copy, which is written over. -/
import Derived.Test.YtmkpaedemjiboaaGreatC3
namespace Go.Proofs.YtmkpaedemjiboaaGreat
open Go.RowKit
set_option linter.unusedVariables false

set_option maxRecDepth 20000 in
set_option maxHeartbeats 8000000 in
theorem pcall1 (w0 : World) (r : Nat) (w : World) (s : Wl.Ws) (p q x y : Nat) (F G : Nat → Prop) (h : PV w0 r w s s p q x y F G) (k : Nat) (hin : In k s) (hk : k ≤ 90) (a : Ac) (ha : AcOk w0 a) (hfit : FitO a.c.l ∧ a.c.l.length * 40 ≤ 140737488351232) (hp : pk a.k 8 = 1) :
    Calls Tryz.prog 9 #[.pointer (some ⟨r, 0, none⟩), acv a] w fun E w' => E = .returned (.bool true) ∧ PD w0 r q y k w' := by
  unfold acv
  obtain ⟨ao, cap, hcv, _, _⟩ := ha.1.shape
  obtain ⟨w1, hw1, sz1, bel1, hB⟩ := blk_step w #[.int .i64 a.k, .int .i64 a.n, .int .i64 a.t, .int .i64 a.c.e, .int .i64 a.c.n, a.c.v] 39
  have c0 : w1.cell? ⟨w.heap.size, 0, none⟩ = some (.int .i64 a.k) := blk_cell hB 0 rfl
  have PK := hide (pickx_any a.k 8 w1 (by decide) (by decide) ha.2.1.1)
  rw [hp] at PK
  have h1 := h.below bel1
  have wb := hin.wbig (by omega)
  have gd := h.xx.good
  have hgl := good_len gd
  have hle := lastE_ok gd
  have h64 := nxt_64 a (Cm.lastE 0 s.l) s.l.length hle hgl
  obtain ⟨ne, hne⟩ : ∃ z, (nxt a (Cm.lastE 0 s.l) s.l.length).e = z := ⟨_, rfl⟩
  obtain ⟨nn, hnn⟩ : ∃ z, (nxt a (Cm.lastE 0 s.l) s.l.length).n = z := ⟨_, rfl⟩
  rw [hne, hnn] at h64
  have hww : w.heap.size < w1.heap.size := by omega
  have HC : Hid (∀ W, Below w1.heap.size w1 W → W.cell? ⟨r, 3, none⟩ = some (.pointer (some ⟨x, 0, none⟩)) ∧ W.cell? ⟨w.heap.size, 0, none⟩ = some (.int .i64 a.k) ∧ W.cell? ⟨w.heap.size, 1, none⟩ = some (.int .i64 a.n) ∧ W.cell? ⟨w.heap.size, 2, none⟩ = some (.int .i64 a.t) ∧ W.cell? ⟨w.heap.size, 3, none⟩ = some (.int .i64 a.c.e) ∧ W.cell? ⟨w.heap.size, 4, none⟩ = some (.int .i64 a.c.n) ∧ W.cell? ⟨w.heap.size, 5, none⟩ = some (a.c.v)) := hide fun W hW => by
    have hb2 := (hW.block w.heap.size hww).trans hB
    exact ⟨(h1.below hW).cells.2.2.2, blk_cell hb2 0 rfl, blk_cell hb2 1 rfl, blk_cell hb2 2 rfl, blk_cell hb2 3 rfl, blk_cell hb2 4 rfl, blk_cell hb2 5 rfl⟩
  have AL : Hid (∀ W : World, ∃ V, W.alloc (.cells #[.int .i64 0, .int .i64 0, .slice none 0 0] 37) = V ∧ Below W.heap.size W V ∧ V.heap[W.heap.size]? = some (.cells #[.int .i64 0, .int .i64 0, .slice none 0 0] 37 (0, 0))) := hide fun W => by
    obtain ⟨V, hV, _, bV, oV⟩ := blk_step W #[.int .i64 0, .int .i64 0, .slice none 0 0] 37
    exact ⟨V, hV, bV, oV⟩
  have HE : Hid (∀ W, Below w1.heap.size w1 W → Calls Tryz.prog 29 #[.pointer (some ⟨x, 0, none⟩)] W fun E w' => E = .returned (.int .i64 (Cm.lastE 0 s.l)) ∧ Below W.heap.size W w' ∧ Below w1.heap.size w1 w' ∧ w'.heap.size = W.heap.size) := hide fun W hW => by
    refine (epochX_any x y G W s (h1.below hW).xx).mono ?_
    rintro E w' ⟨rfl, m, rfl⟩
    exact ⟨rfl, below_drewN (Below.refl _ _) m, below_drewN hW m, rfl⟩
  have HN : Hid (∀ W, Below w1.heap.size w1 W → Calls Tryz.prog 30 #[.pointer (some ⟨x, 0, none⟩)] W fun E w' => E = .returned (.int .i64 s.l.length) ∧ W = w') := hide fun W hW => endX_any x y G W s (h1.below hW).xx
  have HX : Hid (∀ W, Below w1.heap.size w1 W → Calls Tryz.prog 28 #[.agg #[.int .i64 a.k, .int .i64 a.n, .int .i64 a.t, .int .i64 a.c.e, .int .i64 a.c.n, a.c.v], .int .i64 (Cm.lastE 0 s.l), .int .i64 s.l.length] W fun E w' => E = .returned (.agg #[.int .i64 ne, .int .i64 nn, a.c.v]) ∧ Below W.heap.size W w' ∧ Below w1.heap.size w1 w') := hide fun W hW => by
    have := next_any a (Cm.lastE 0 s.l) s.l.length W (ha.below (h1.below hW).bel) hle hgl
    rw [hne, hnn] at this
    unfold cmv at this
    refine this.mono ?_
    rintro E w' ⟨rfl, b⟩
    exact ⟨rfl, b, hW.trans (b.mono hW.size)⟩
  have PUT : Hid (∀ W g, Below w1.heap.size w1 W → w1.heap.size ≤ g → W.heap[g]? = some (.cells #[.int .i64 0, .int .i64 0, .slice none 0 0] 37 (0, 0)) → ∃ U, ((W.setCell ⟨g, 0, none⟩ (.int .i64 ne)).setCell ⟨g, 1, none⟩ (.int .i64 nn)).setCell ⟨g, 2, none⟩ a.c.v = U ∧ (W.cell? ⟨g, 0, none⟩ = some (.int .i64 0) ∧ W.cell? ⟨g, 1, none⟩ = some (.int .i64 0) ∧ W.cell? ⟨g, 2, none⟩ = some (.slice none 0 0)) ∧ (W.frozen? ⟨g, 0, none⟩ = false ∧ W.frozen? ⟨g, 1, none⟩ = false ∧ W.frozen? ⟨g, 2, none⟩ = false) ∧ (U.cell? ⟨g, 0, none⟩ = some (.int .i64 ne) ∧ U.cell? ⟨g, 1, none⟩ = some (.int .i64 nn) ∧ U.cell? ⟨g, 2, none⟩ = some a.c.v) ∧ Below w1.heap.size w1 U ∧ Hid (U.heap[g]? = some (.cells #[.int .i64 ne, .int .i64 nn, a.c.v] 37 (0, 0)) ∧ w1.heap.size ≤ g)) := hide fun W g hW hg hbk => by
    obtain ⟨U, hU, bU, gU, z1, z2, z3⟩ := res_step hbk (.int .i64 ne) (.int .i64 nn) a.c.v
    exact ⟨U, hU, z1, z2, z3, below_put hW gU hg hW.size, hide ⟨bU, hg⟩⟩
  obtain ⟨wA, hwA, blA, bkA⟩ := AL.out w1.drew
  have b11 : Below w1.heap.size w1 w1.drew := (Below.refl w1.heap.size w1).drew
  have b1A : Below w1.heap.size w1 wA := b11.trans blA
  have BKA := hide (show wA.heap[w.heap.size + 1]? = some (.cells #[.int .i64 0, .int .i64 0, .slice none 0 0] 37 (0, 0)) by rw [← sz1]; exact bkA)
  have szA : w.heap.size + 1 < wA.heap.size := by
    have := blk_lt BKA.out
    exact this
  have hle1 : w1.heap.size ≤ w.heap.size + 1 := by omega
  have H1 := hide h1
  have HIN := hide hin
  have WB := hide wb
  have LF := hide h.ww.lt
  have LG := hide h.xx.lt
  have LGG := hide h.xx.lt
  have RB := hide (show r < w.heap.size from blk_lt h.blk)
  have HA := hide ha
  have HFT := hide hfit
  have H64 := hide h64
  have HCV := hide hcv
  have W0 := hide h.bel.size
  rw [hcv] at hw1 HC HX PUT ⊢
  generalize Cm.lastE 0 s.l = ep at *
  clear h h1 hin hB hcv wb ha hfit h64 gd hgl hle hne hnn bkA blA
  go_enter Tryz.func9, Tryz.ntmps9
  go_wp2_with fail
  refine PK.out.mono ?_
  rintro E w2 ⟨rfl, rfl⟩
  clear PK
  go_wp2_with fail
  go_region_held3 (fun w' => w'.cell? ⟨r, 3, none⟩ = some (.pointer (some ⟨x, 0, none⟩)) ∧ w'.cell? ⟨w.heap.size, 0, none⟩ = some (.int .i64 a.k) ∧ w'.cell? ⟨w.heap.size, 1, none⟩ = some (.int .i64 a.n) ∧ w'.cell? ⟨w.heap.size, 2, none⟩ = some (.int .i64 a.t) ∧ w'.cell? ⟨w.heap.size, 3, none⟩ = some (.int .i64 a.c.e) ∧ w'.cell? ⟨w.heap.size, 4, none⟩ = some (.int .i64 a.c.n) ∧ w'.cell? ⟨w.heap.size, 5, none⟩ = some (.slice ao a.c.l.length cap)) (first | exact HC.out _ b11 | exact HC.out _ b1A | exact HC.out _ b13 | exact HC.out _ b1B | exact HC.out _ b15 | exact HC.out _ b1C | exact HC.out _ bU | go_keep)
    (first
    | (go_at_call 29; first
        | (refine (HE.out _ b11).mono ?_; rintro E w3 ⟨rfl, bl3, b13, sz3⟩; have sz3 : w3.heap.size = w.heap.size + 1 := sz3.trans sz1; obtain ⟨wB, hwB, blB, bkB⟩ := AL.out w3; have b1B := b13.trans (blB.mono b13.size); have BKB := hide bkB; clear bkB)
        | (refine (HE.out _ b1A).mono ?_; rintro E w3 ⟨rfl, bl3, b13, sz3⟩; have BL3 := hide ((bl3.block (w.heap.size + 1) szA).trans BKA.out); clear sz3))
    | (go_at_call 30; refine (HN.out _ (by first | exact b13 | exact b1B)).mono ?_; rintro E w4 ⟨rfl, rfl⟩)
    | (go_at_call 28; first
        | (refine (HX.out _ b13).mono ?_; rintro E w5 ⟨rfl, bl5, b15⟩; first
            | (revert BL3; intro BL3; obtain ⟨U, hU, ⟨q0, q1, q2⟩, ⟨f0, f1, f2⟩, ⟨z0, z1, z2⟩, bU, PUa⟩ := PUT.out w5 (w.heap.size + 1) b15 hle1 ((bl5.block _ (blk_lt BL3.out)).trans BL3.out))
            | (obtain ⟨wC, hwC, blC, bkC⟩ := AL.out w5; have b1C := b15.trans (blC.mono b15.size); obtain ⟨U, hU, ⟨q0, q1, q2⟩, ⟨f0, f1, f2⟩, ⟨z0, z1, z2⟩, bU, PUc⟩ := PUT.out wC w5.heap.size b1C b15.size bkC))
        | (refine (HX.out _ b1B).mono ?_; rintro E w5 ⟨rfl, bl5, b15⟩; have BL5 := hide ((bl5.block _ (blk_lt BKB.out)).trans BKB.out); rw [sz3] at BL5; obtain ⟨U, hU, ⟨q0, q1, q2⟩, ⟨f0, f1, f2⟩, ⟨z0, z1, z2⟩, bU, PUa⟩ := PUT.out w5 (w.heap.size + 1) b15 hle1 BL5.out)))
  all_goals
    first
      | (revert PUa; intro PUa; have PU := PUa; clear PUa; generalize w.heap.size + 1 = g6 at PU z0 z1 z2 ⊢)
      | (revert PUc; intro PUc; have PU := PUc; clear PUc; generalize w5.heap.size = g6 at PU z0 z1 z2 ⊢)
    rw [← HCV.out] at PU
    have PVU := H1.out.below bU
    have CC := hide (copyC_any ne nn a.c.v a.c.l U (HA.out.1.below PVU.bel) HFT.out.2)
    unfold cmv at CC
    have szU := bU.size
    have PVH := hide PVU
    rw [HCV.out] at CC
    clear HC HE HN HX PUT AL PVU H1 BKA hU q0 q1 q2 f0 f1 f2 bl5 b15 bU b11 b1A hwA
    go_wp2_with fail
    refine CC.out.mono ?_
    rintro E w7 ⟨v7, rfl, own7, bel7⟩
    obtain ⟨X, hX1, hX2, szX, belX, bX, x0, x1, x2⟩ := new_step w7 37 (.int .i64 0) (.int .i64 0) (.slice none 0 0) (.int .i64 ne) (.int .i64 nn) v7
    have bUX : Below U.heap.size U X := bel7.trans (belX.mono bel7.size)
    have PX := PVH.out.below bUX
    have hg6 := blk_lt PU.out.1
    have g6X : X.heap[g6]? = some (.cells #[.int .i64 ne, .int .i64 nn, a.c.v] 37 (0, 0)) := (bUX.block g6 hg6).trans PU.out.1
    have ownX := own7.below belX
    have sz7 := bel7.size
    have hrng : ∀ b, v7.ownBlock = some b → U.heap.size ≤ b ∧ b < w7.heap.size := fun b hb => OwnO.block own7 b hb
    have PXc := PX.cells.2.1
    have A1 : Hid (∀ W, Below X.heap.size X W → Calls Tryz.prog 16 #[.pointer (some ⟨p, 0, none⟩), .agg #[.int .i64 ne, .int .i64 nn, v7]] W fun E w' => E = .returned (.int .i64 (Wl.wapp s ⟨ne, nn, a.c.l⟩).1) ∧ (∃ F', PV w0 r w' (Wl.wapp s ⟨ne, nn, a.c.l⟩).2 s p q x y F' G ∧ (∀ g, F' g → F g ∨ X.heap.size ≤ g) ∧ OwnO 71 U.heap.size w' v7 a.c.l ∧ w'.heap[w7.heap.size]? = some (.cells #[.int .i64 ne, .int .i64 nn, v7] 37 (0, 0)) ∧ w'.heap[g6]? = some (.cells #[.int .i64 ne, .int .i64 nn, a.c.v] 37 (0, 0))) ∧ w'.cell? ⟨r, 1, none⟩ = some (.pointer (some ⟨p, 0, none⟩)) ∧ w'.cell? ⟨w7.heap.size, 0, none⟩ = some (.int .i64 ne) ∧ w'.cell? ⟨w7.heap.size, 1, none⟩ = some (.int .i64 nn) ∧ w'.cell? ⟨w7.heap.size, 2, none⟩ = some (v7)) := hide fun W hW => by
      have hP := PX.below hW
      have hL := ownX.below hW
      have hsz := hW.size
      have e1 := (hW.block w7.heap.size (by omega)).trans bX
      have e2 := (hW.block g6 (blk_lt g6X)).trans g6X
      refine (hP.callW (wappend_any p q F W s ⟨ne, nn, v7, a.c.l⟩ hP.ww WB.out hL.is HFT.out.1 H64.out HFT.out.2 (fun _ b hb hf => by have j1 := hrng b hb; have j2 := LF.out b hf; omega))).mono ?_
      rintro E w' ⟨rfl, F', k1, o1, s1⟩
      have f1 := (o1.block w7.heap.size (blk_lt e1) (fun e => by have := LF.out _ e; omega)).trans e1
      have f2 := (o1.block g6 (blk_lt e2) (fun e => by have j1 := LF.out _ e; have j2 := PU.out.2; omega)).trans e2
      refine ⟨rfl, ⟨F', k1, fun g hg => (s1 g hg).imp id fun e => by omega, row_agree hL fun b hb => o1.block b (OwnO.block hL b hb).2 fun e => by have j1 := (OwnO.block hL b hb).1; have j2 := LF.out b e; omega, f1, f2⟩, k1.cells.2.1, blk_cell f1 0 rfl, blk_cell f1 1 rfl, blk_cell f1 2 rfl⟩
    have A2 : Hid (∀ W F', PV w0 r W (Wl.wapp s ⟨ne, nn, a.c.l⟩).2 s p q x y F' G → W.heap[g6]? = some (.cells #[.int .i64 ne, .int .i64 nn, a.c.v] 37 (0, 0)) → Calls Tryz.prog 26 #[.pointer (some ⟨x, 0, none⟩), .agg #[.int .i64 ne, .int .i64 nn, a.c.v]] W fun E w' => E = .returned (.int .i64 (Wl.wapp s ⟨ne, nn, a.c.l⟩).1) ∧ PD w0 r q y k w' ∧ w'.cell? ⟨r, 3, none⟩ = some (.pointer (some ⟨x, 0, none⟩)) ∧ w'.cell? ⟨g6, 0, none⟩ = some (.int .i64 ne) ∧ w'.cell? ⟨g6, 1, none⟩ = some (.int .i64 nn) ∧ w'.cell? ⟨g6, 2, none⟩ = some (a.c.v)) := hide fun W F' hP e2 => by
      refine (hP.callX (appendX_any x y G W s ⟨ne, nn, a.c.v, a.c.l⟩ hP.xx WB.out (HA.out.1.below hP.bel) HFT.out.1 H64.out HFT.out.2 (fun hl b hb hf => by have j1 := isO_lt HA.out.1 hl hb; have j2 := hP.gb b hf; omega))).mono ?_
      rintro E w' ⟨rfl, G', k1, o1, _⟩
      have f2 := (o1.block g6 (blk_lt e2) (fun e => by have j1 := LG.out _ e; have j2 := PU.out.2; omega)).trans e2
      exact ⟨rfl, ⟨_, p, x, F', G', k1, in_app HIN.out ⟨ne, nn, a.c.l⟩⟩, k1.cells.2.2.2, blk_cell f2 0 rfl, blk_cell f2 1 rfl, blk_cell f2 2 rfl⟩
    obtain ⟨ah, ch, hv7, _, _⟩ := own7.is.shape
    subst hv7
    rw [HCV.out] at A2
    have HR := hide hrng
    have hnb : a.c.l.length ≤ 3518437208780 := by have := HFT.out.2; omega
    have PU2 := hide (show g6 < U.heap.size ∧ w1.heap.size ≤ g6 from ⟨hg6, PU.out.2⟩)
    generalize hz : (Wl.wapp s ⟨ne, nn, a.c.l⟩).1 = z at *
    clear hz PVH CC own7 bel7 belX bX bUX PX g6X ownX hrng HIN WB LG HFT H64 PU
    go_wp2_with fail
    go_region_held3 (fun w' => w'.cell? ⟨r, 1, none⟩ = some (.pointer (some ⟨p, 0, none⟩)) ∧ w'.cell? ⟨w7.heap.size, 0, none⟩ = some (.int .i64 ne) ∧ w'.cell? ⟨w7.heap.size, 1, none⟩ = some (.int .i64 nn) ∧ w'.cell? ⟨w7.heap.size, 2, none⟩ = some (.slice ah a.c.l.length ch)) (first | exact ⟨PXc, x0, x1, x2⟩ | exact ⟨d0, d1, d2, d3⟩ | go_keep)
      (first
      | (go_at_call 16; refine (A1.out _ ((Below.refl _ _).drew)).mono ?_; rintro E w8 ⟨rfl, ⟨F8, P8⟩, d0, d1, d2, d3⟩; have P8 := hide P8))
    clear A1
    generalize hn : a.c.l.length = n at *
    have HNN := hide hn
    clear hn
    go_wp2
    go_loopw [9] (fun iv wr => ∃ (i : Nat) (l' : List Bm.Ov), i ≤ n ∧ iv = .int .i64 i ∧ l'.length = n ∧ Hid (PV w0 r wr (Wl.wapp s ⟨ne, nn, a.c.l⟩).2 s p q x y F8 G ∧ OwnO 71 U.heap.size wr (.slice ah n ch) l' ∧ wr.heap[w7.heap.size]? = some (.cells #[.int .i64 ne, .int .i64 nn, .slice ah n ch] 37 (0, 0)) ∧ wr.heap[g6]? = some (.cells #[.int .i64 ne, .int .i64 nn, a.c.v] 37 (0, 0)))) (fun iv _ => n - (intOf iv).toNat)
    case atStart => exact ⟨0, a.c.l, by omega, rfl, HNN.out, hide ⟨P8.out.1, P8.out.2.2.1, P8.out.2.2.2.1, P8.out.2.2.2.2⟩⟩
    case round =>
      obtain ⟨i, l', hi, rfl, hll, HT⟩ := hrel
      have e2 : wr.cell? ⟨w7.heap.size, 2, none⟩ = some (.slice ah n ch) := blk_cell HT.out.2.2.1 2 rfl
      by_cases hlt : i < n
      · obtain ⟨b7, c7, hv, hcap, hcm, hb7, hl7⟩ := own_fullO HT.out.2.1 hll (by omega)
        simp only [Value.slice.injEq, true_and] at hv
        obtain ⟨rfl, rfl⟩ := hv
        obtain ⟨o, ho⟩ : ∃ o, l'[i]? = some o := ⟨l'[i]'(by omega), by rw [List.getElem?_eq_getElem]⟩
        obtain ⟨⟨m0, m1, m2⟩, ⟨f0, f1, f2⟩⟩ := own_atO HT.out.2.1 hll i o ho
        obtain ⟨W, hW, ownW, gW⟩ := own_putO HT.out.2.1 hll i hlt ⟨false, ⟨#[111, 118, 101, 114]⟩, ⟨#[]⟩⟩
        have hr7 := HR.out b7 rfl
        have oW : Out (fun g => g = b7) wr W := Out.of_grown gW fun g hg => by simp at hg; exact hg.symm
        have HT2 := hide (show PV w0 r W (Wl.wapp s ⟨ne, nn, a.c.l⟩).2 s p q x y F8 G ∧ OwnO 71 U.heap.size W (.slice (some ⟨b7, 0, none⟩) n ch) (l'.set i ⟨false, ⟨#[111, 118, 101, 114]⟩, ⟨#[]⟩⟩) ∧ W.heap[w7.heap.size]? = some (.cells #[.int .i64 ne, .int .i64 nn, .slice (some ⟨b7, 0, none⟩) n ch] 37 (0, 0)) ∧ W.heap[g6]? = some (.cells #[.int .i64 ne, .int .i64 nn, a.c.v] 37 (0, 0)) from by
          have w00 := W0.out
          have hpu := PU2.out
          have hrb := RB.out
          refine ⟨HT.out.1.outside oW fun g e => ?_, ownW, (oW.block w7.heap.size (blk_lt HT.out.2.2.1) (by omega)).trans HT.out.2.2.1, (oW.block g6 (blk_lt HT.out.2.2.2) (by omega)).trans HT.out.2.2.2⟩
          subst e
          refine ⟨fun e => ?_, fun e => ?_, by omega, by omega⟩
          · rcases P8.out.2.1 _ e with a | a
            · have := LF.out _ a
              omega
            · omega
          · have := HT.out.1.xx.lt _ e
            have := LGG.out _ e
            omega)
        have hlt' : (i : Int) < n := by omega
        have hi0 : (0 : Int) ≤ (i : Int) := by omega
        clear ownW gW oW
        go_wp2
        go_roundw
        case rel => exact ⟨i + 1, _, by omega, by go_num, by rw [List.length_set]; exact hll, HT2⟩
        case measure => simp [intOf]; omega
      · obtain rfl : i = n := by omega
        have hlt' : ¬ (i : Int) < i := by omega
        have C6 := HT.out.2.2.2
        rw [HCV.out] at C6
        have u0 : wr.cell? ⟨g6, 0, none⟩ = some (.int .i64 ne) := blk_cell HT.out.2.2.2 0 rfl
        have u1 : wr.cell? ⟨g6, 1, none⟩ = some (.int .i64 nn) := blk_cell HT.out.2.2.2 1 rfl
        have u2 : wr.cell? ⟨g6, 2, none⟩ = some a.c.v := blk_cell HT.out.2.2.2 2 rfl
        have u3 := HT.out.1.cells.2.2.2
        rw [HCV.out] at u2
        go_wp2_with fail
        go_region_held3 (fun w' => w'.cell? ⟨r, 3, none⟩ = some (.pointer (some ⟨x, 0, none⟩)) ∧ w'.cell? ⟨g6, 0, none⟩ = some (.int .i64 ne) ∧ w'.cell? ⟨g6, 1, none⟩ = some (.int .i64 nn) ∧ w'.cell? ⟨g6, 2, none⟩ = some (.slice ao i cap)) (first | exact ⟨u3, u0, u1, u2⟩ | exact ⟨i0, i1, i2, i3⟩ | go_keep)
          (first
          | (go_at_call 26; refine (A2.out _ _ (HT.out.1.below ((Below.refl _ _).drew)) C6).mono ?_; rintro E w9 ⟨rfl, J, i0, i1, i2, i3⟩; have J := hide J))
        go_wp2
        go_ret
        exact ⟨rfl, J.out⟩

end Go.Proofs.YtmkpaedemjiboaaGreat
