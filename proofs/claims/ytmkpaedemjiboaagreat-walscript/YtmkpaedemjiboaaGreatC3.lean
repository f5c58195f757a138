/- Texts of one layer, one behind the other. -/
import Derived.Test.YtmkpaedemjiboaaGreatC2
import Derived.Test.YtmkpaedemjiboaaGreatA3
/- The law's pair: a commit that was lent is appended to both. -/
namespace Go.Proofs.YtmkpaedemjiboaaGreat
open Go.RowKit
set_option linter.unusedVariables false

theorem isO_lt {w : World} {v : Value} {l : List Bm.Ov} (h : IsO w v l) (hl : 0 < l.length) {b : Nat} (hb : v.ownBlock = some b) : b < w.heap.size := by
  rcases h with ⟨_, h⟩ | ⟨ad, cap, hv, h1, h2, hc⟩
  · subst h
    simp at hl
  · subst hv
    have e : ad.block = b := by simpa [Value.ownBlock] using hb
    obtain ⟨o, r, rfl⟩ : ∃ o r, l = o :: r := by
      rcases l with _ | ⟨o, r⟩
      · simp at hl
      · exact ⟨o, r, rfl⟩
    have hk := hc 0 (.bool o.p) rfl
    have hlt := World.block_lt_of_cell? _ _ hk
    have eb : (ad.add 0).block = ad.block := by unfold Addr.add; split <;> rfl
    rw [eb, e] at hlt
    exact hlt

theorem LentV.out {F : Nat → Prop} {base : Nat} {w w' : World} {v : Value} {l : List Bm.Ov} (h : LentV base w v l) (ho : Out F w w') (hF : ∀ g, F g → g < base) : LentV base w' v l := by
  obtain ⟨g, cap, rfl, hc, hm, hown⟩ := h
  refine ⟨g, cap, rfl, hc, hm, row_agree hown fun b hb => ?_⟩
  obtain ⟨h1, h2⟩ := OwnO.block hown b hb
  exact ho.block b h2 fun e => by have := hF b e; omega

theorem LentV.far {base : Nat} {w : World} {v : Value} {l : List Bm.Ov} (h : LentV base w v l) {b : Nat} (hb : v.ownBlock = some b) : base ≤ b := by
  obtain ⟨g, cap, rfl, hc, hm, hown⟩ := h
  exact (OwnO.block hown b hb).1

set_option maxRecDepth 20000 in
set_option maxHeartbeats 4000000 in
theorem pcall0 (w0 : World) (r : Nat) (w : World) (s : Wl.Ws) (p q x y : Nat) (F G : Nat → Prop) (h : PV w0 r w s s p q x y F G) (k : Nat) (hin : In k s) (hk : k ≤ 90) (a : Ac) (ha : AcOk w0 a) (hfit : FitO a.c.l ∧ a.c.l.length * 40 ≤ 140737488351232) (hp : pk a.k 8 = 0) :
    Calls Tryz.prog 9 #[.pointer (some ⟨r, 0, none⟩), acv a] w fun E w' => E = .returned (.bool true) ∧ PD w0 r q y k w' := by
  unfold acv
  have haw : AcOk w a := ha.below h.bel
  obtain ⟨ao, cap, hcv, _, _⟩ := ha.1.shape
  obtain ⟨w1, hw1, sz1, bel1, hB⟩ := blk_step w #[.int .i64 a.k, .int .i64 a.n, .int .i64 a.t, .int .i64 a.c.e, .int .i64 a.c.n, a.c.v] 39
  have c0 : w1.cell? ⟨w.heap.size, 0, none⟩ = some (.int .i64 a.k) := blk_cell hB 0 rfl
  have c3 : w1.cell? ⟨w.heap.size, 3, none⟩ = some (.int .i64 a.c.e) := blk_cell hB 3 rfl
  have c4 : w1.cell? ⟨w.heap.size, 4, none⟩ = some (.int .i64 a.c.n) := blk_cell hB 4 rfl
  have c5 : w1.cell? ⟨w.heap.size, 5, none⟩ = some a.c.v := blk_cell hB 5 rfl
  have PK := hide (pickx_any a.k 8 w1 (by decide) (by decide) ha.2.1.1)
  rw [hp] at PK
  have h1 := h.below bel1
  have wb := hin.wbig (by omega)
  have LC := hide (lentC_any a.c.e a.c.n a.c.v a.c.l w1 (haw.1.below bel1) hfit.2)
  unfold cmv at LC
  have ltF : ∀ g, F g → g < w.heap.size := h.ww.lt
  have ltG : ∀ g, G g → g < w.heap.size := h.xx.lt
  have H1 := hide h1
  have HIN := hide hin
  have WB := hide wb
  have LF := hide ltF
  have LG := hide ltG
  have HA := hide ha
  have HFT := hide hfit
  have HB := hide hB
  have HCV := hide hcv
  rw [hcv] at hw1 c5 LC ⊢
  clear h h1 hin hB hcv wb ltF ltG ha hfit haw
  go_enter Tryz.func9, Tryz.ntmps9
  go_wp2_with fail
  refine PK.out.mono ?_
  rintro E w2 ⟨rfl, rfl⟩
  clear PK
  go_wp2_with fail
  refine LC.out.mono ?_
  rintro E w2 ⟨v2, rfl, LV, bel2⟩
  obtain ⟨V, hV1, hV2, szV, belV, bV, x0, x1, x2⟩ := new_step w2 37 (.int .i64 0) (.int .i64 0) (.slice none 0 0) (.int .i64 a.c.e) (.int .i64 a.c.n) v2
  have sz2 := bel2.size
  have bel1V : Below w1.heap.size w1 V := bel2.trans (belV.mono bel2.size)
  have hV := H1.out.below bel1V
  have hBV : V.heap[w.heap.size]? = some (.cells #[.int .i64 a.k, .int .i64 a.n, .int .i64 a.t, .int .i64 a.c.e, .int .i64 a.c.n, a.c.v] 39 (0, 0)) := (bel1V.block w.heap.size (by omega)).trans HB.out
  have hS : ∀ W F' G' s' t', PV w0 r W s' t' p q x y F' G' → W.heap[w.heap.size]? = some (.cells #[.int .i64 a.k, .int .i64 a.n, .int .i64 a.t, .int .i64 a.c.e, .int .i64 a.c.n, a.c.v] 39 (0, 0)) → W.heap[w2.heap.size]? = some (.cells #[.int .i64 a.c.e, .int .i64 a.c.n, v2] 37 (0, 0)) → (W.cell? ⟨r, 1, none⟩ = some (.pointer (some ⟨p, 0, none⟩)) ∧ W.cell? ⟨r, 3, none⟩ = some (.pointer (some ⟨x, 0, none⟩))) ∧ (W.cell? ⟨w2.heap.size, 0, none⟩ = some (.int .i64 a.c.e) ∧ W.cell? ⟨w2.heap.size, 1, none⟩ = some (.int .i64 a.c.n) ∧ W.cell? ⟨w2.heap.size, 2, none⟩ = some (v2)) ∧ W.cell? ⟨w.heap.size, 3, none⟩ = some (.int .i64 a.c.e) ∧ W.cell? ⟨w.heap.size, 4, none⟩ = some (.int .i64 a.c.n) ∧ W.cell? ⟨w.heap.size, 5, none⟩ = some (a.c.v) := fun W F' G' s' t' k1 k2 k3 =>
    ⟨⟨k1.cells.2.1, k1.cells.2.2.2⟩, ⟨blk_cell k3 0 rfl, blk_cell k3 1 rfl, blk_cell k3 2 rfl⟩, blk_cell k2 3 rfl, blk_cell k2 4 rfl, blk_cell k2 5 rfl⟩
  obtain ⟨⟨a1, a3⟩, ⟨y0, y1, y2⟩, b3, b4, b5⟩ := hS V F G s s hV hBV bV
  have A1 : Hid (∀ W, Below V.heap.size V W → Calls Tryz.prog 16 #[.pointer (some ⟨p, 0, none⟩), .agg #[.int .i64 a.c.e, .int .i64 a.c.n, v2]] W fun E w' => E = .returned (.int .i64 (Wl.wapp s a.c.c).1) ∧ (∃ F', PV w0 r w' (Wl.wapp s a.c.c).2 s p q x y F' G ∧ LentV w1.heap.size w' v2 a.c.l ∧ w'.heap[w.heap.size]? = some (.cells #[.int .i64 a.k, .int .i64 a.n, .int .i64 a.t, .int .i64 a.c.e, .int .i64 a.c.n, a.c.v] 39 (0, 0)) ∧ w'.heap[w2.heap.size]? = some (.cells #[.int .i64 a.c.e, .int .i64 a.c.n, v2] 37 (0, 0))) ∧ (w'.cell? ⟨r, 1, none⟩ = some (.pointer (some ⟨p, 0, none⟩)) ∧ w'.cell? ⟨r, 3, none⟩ = some (.pointer (some ⟨x, 0, none⟩))) ∧ (w'.cell? ⟨w2.heap.size, 0, none⟩ = some (.int .i64 a.c.e) ∧ w'.cell? ⟨w2.heap.size, 1, none⟩ = some (.int .i64 a.c.n) ∧ w'.cell? ⟨w2.heap.size, 2, none⟩ = some (v2)) ∧ w'.cell? ⟨w.heap.size, 3, none⟩ = some (.int .i64 a.c.e) ∧ w'.cell? ⟨w.heap.size, 4, none⟩ = some (.int .i64 a.c.n) ∧ w'.cell? ⟨w.heap.size, 5, none⟩ = some (a.c.v)) := hide fun W hW => by
    have hP := hV.below hW
    have hL := (LV.below belV).below hW
    have e1 := (hW.block w.heap.size (by omega)).trans hBV
    have e2 := (hW.block w2.heap.size (by omega)).trans bV
    refine (hP.callW (wappend_any p q F W s ⟨a.c.e, a.c.n, v2, a.c.l⟩ hP.ww WB.out hL.is HFT.out.1 HA.out.2.2 HFT.out.2 (fun _ b hb hf => by have j1 := hL.far hb; have j2 := LF.out b hf; omega))).mono ?_
    rintro E w' ⟨rfl, F', k1, o1, _⟩
    have f1 := (o1.block w.heap.size (blk_lt e1) (fun e => by have := LF.out _ e; omega)).trans e1
    have f2 := (o1.block w2.heap.size (blk_lt e2) (fun e => by have := LF.out _ e; omega)).trans e2
    exact ⟨rfl, ⟨F', k1, hL.out o1 (fun g e => by have := LF.out g e; omega), f1, f2⟩, hS _ _ _ _ _ k1 f1 f2⟩
  have A2 : Hid (∀ W F', PV w0 r W (Wl.wapp s a.c.c).2 s p q x y F' G → LentV w1.heap.size W v2 a.c.l → W.heap[w.heap.size]? = some (.cells #[.int .i64 a.k, .int .i64 a.n, .int .i64 a.t, .int .i64 a.c.e, .int .i64 a.c.n, a.c.v] 39 (0, 0)) → W.heap[w2.heap.size]? = some (.cells #[.int .i64 a.c.e, .int .i64 a.c.n, v2] 37 (0, 0)) → Calls Tryz.prog 26 #[.pointer (some ⟨x, 0, none⟩), .agg #[.int .i64 a.c.e, .int .i64 a.c.n, a.c.v]] W fun E w' => E = .returned (.int .i64 (Wl.wapp s a.c.c).1) ∧ (∃ G', PV w0 r w' (Wl.wapp s a.c.c).2 (Wl.wapp s a.c.c).2 p q x y F' G' ∧ LentV w1.heap.size w' v2 a.c.l ∧ w'.heap[w.heap.size]? = some (.cells #[.int .i64 a.k, .int .i64 a.n, .int .i64 a.t, .int .i64 a.c.e, .int .i64 a.c.n, a.c.v] 39 (0, 0)) ∧ w'.heap[w2.heap.size]? = some (.cells #[.int .i64 a.c.e, .int .i64 a.c.n, v2] 37 (0, 0))) ∧ (w'.cell? ⟨r, 1, none⟩ = some (.pointer (some ⟨p, 0, none⟩)) ∧ w'.cell? ⟨r, 3, none⟩ = some (.pointer (some ⟨x, 0, none⟩))) ∧ (w'.cell? ⟨w2.heap.size, 0, none⟩ = some (.int .i64 a.c.e) ∧ w'.cell? ⟨w2.heap.size, 1, none⟩ = some (.int .i64 a.c.n) ∧ w'.cell? ⟨w2.heap.size, 2, none⟩ = some (v2)) ∧ w'.cell? ⟨w.heap.size, 3, none⟩ = some (.int .i64 a.c.e) ∧ w'.cell? ⟨w.heap.size, 4, none⟩ = some (.int .i64 a.c.n) ∧ w'.cell? ⟨w.heap.size, 5, none⟩ = some (a.c.v)) := hide fun W F' hP hL e1 e2 => by
    refine (hP.callX (appendX_any x y G W s a.c hP.xx WB.out (HA.out.1.below hP.bel) HFT.out.1 HA.out.2.2 HFT.out.2 (fun hl b hb hf => by have j1 := isO_lt HA.out.1 hl hb; have j2 := hP.gb b hf; omega))).mono ?_
    rintro E w' ⟨rfl, G', k1, o1, _⟩
    have f1 := (o1.block w.heap.size (blk_lt e1) (fun e => by have := LG.out _ e; omega)).trans e1
    have f2 := (o1.block w2.heap.size (blk_lt e2) (fun e => by have := LG.out _ e; omega)).trans e2
    exact ⟨rfl, ⟨G', k1, hL.out o1 (fun g e => by have := LG.out g e; omega), f1, f2⟩, hS _ _ _ _ _ k1 f1 f2⟩
  have A3 : Hid (∀ W F' G', PV w0 r W (Wl.wapp s a.c.c).2 (Wl.wapp s a.c.c).2 p q x y F' G' → LentV w1.heap.size W v2 a.c.l → W.heap[w.heap.size]? = some (.cells #[.int .i64 a.k, .int .i64 a.n, .int .i64 a.t, .int .i64 a.c.e, .int .i64 a.c.n, a.c.v] 39 (0, 0)) → W.heap[w2.heap.size]? = some (.cells #[.int .i64 a.c.e, .int .i64 a.c.n, v2] 37 (0, 0)) → Calls Tryz.prog 27 #[.agg #[.int .i64 a.c.e, .int .i64 a.c.n, v2], .agg #[.int .i64 a.c.e, .int .i64 a.c.n, a.c.v]] W fun E w' => E = .returned (.bool true) ∧ PD w0 r q y k w' ∧ (w'.cell? ⟨r, 1, none⟩ = some (.pointer (some ⟨p, 0, none⟩)) ∧ w'.cell? ⟨r, 3, none⟩ = some (.pointer (some ⟨x, 0, none⟩))) ∧ (w'.cell? ⟨w2.heap.size, 0, none⟩ = some (.int .i64 a.c.e) ∧ w'.cell? ⟨w2.heap.size, 1, none⟩ = some (.int .i64 a.c.n) ∧ w'.cell? ⟨w2.heap.size, 2, none⟩ = some (v2)) ∧ w'.cell? ⟨w.heap.size, 3, none⟩ = some (.int .i64 a.c.e) ∧ w'.cell? ⟨w.heap.size, 4, none⟩ = some (.int .i64 a.c.n) ∧ w'.cell? ⟨w.heap.size, 5, none⟩ = some (a.c.v)) := hide fun W F' G' hP hL e1 e2 => by
    refine (keptC_yes a.c.e a.c.n v2 a.c.v a.c.l w1.heap.size W hL (HA.out.1.below hP.bel) HFT.out.2).mono ?_
    rintro E w' ⟨rfl, b⟩
    have k1 := hP.below b
    have f1 := (b.block w.heap.size (blk_lt e1)).trans e1
    have f2 := (b.block w2.heap.size (blk_lt e2)).trans e2
    exact ⟨rfl, ⟨_, p, x, F', G', k1, in_app HIN.out a.c.c⟩, hS _ _ _ _ _ k1 f1 f2⟩
  obtain ⟨ga, gc, hv2, _, _⟩ := LV.is.shape
  rw [HCV.out] at b5 A1 A2 A3
  subst hv2
  generalize hz : (Wl.wapp s a.c.c).1 = z at *
  clear hz hS hV hBV bV LV bel2 belV bel1V LC H1 HIN WB LF LG HA HFT HB
  go_wp2_with fail
  go_region_held3 (fun w' => (w'.cell? ⟨r, 1, none⟩ = some (.pointer (some ⟨p, 0, none⟩)) ∧ w'.cell? ⟨r, 3, none⟩ = some (.pointer (some ⟨x, 0, none⟩))) ∧ (w'.cell? ⟨w2.heap.size, 0, none⟩ = some (.int .i64 a.c.e) ∧ w'.cell? ⟨w2.heap.size, 1, none⟩ = some (.int .i64 a.c.n) ∧ w'.cell? ⟨w2.heap.size, 2, none⟩ = some (.slice ga a.c.l.length gc)) ∧ w'.cell? ⟨w.heap.size, 3, none⟩ = some (.int .i64 a.c.e) ∧ w'.cell? ⟨w.heap.size, 4, none⟩ = some (.int .i64 a.c.n) ∧ w'.cell? ⟨w.heap.size, 5, none⟩ = some (.slice ao a.c.l.length cap)) (first | exact ⟨⟨a1, a3⟩, ⟨y0, y1, y2⟩, b3, b4, b5⟩ | exact ⟨⟨d1, d3⟩, ⟨d4, d5, d6⟩, d7, d8, d9⟩ | exact ⟨⟨e1, e3⟩, ⟨e4, e5, e6⟩, e7, e8, e9⟩ | exact ⟨⟨i1, i3⟩, ⟨i4, i5, i6⟩, i7, i8, i9⟩ | go_keep)
    (first
    | (go_at_call 16; refine (A1.out _ ((Below.refl _ _).drew)).mono ?_; rintro E w3 ⟨rfl, ⟨F3, P3⟩, ⟨d1, d3⟩, ⟨d4, d5, d6⟩, d7, d8, d9⟩; have P3 := hide P3)
    | (go_at_call 26; refine (A2.out _ _ P3.out.1 P3.out.2.1 P3.out.2.2.1 P3.out.2.2.2).mono ?_; rintro E w4 ⟨rfl, ⟨G4, P4⟩, ⟨e1, e3⟩, ⟨e4, e5, e6⟩, e7, e8, e9⟩; have P4 := hide P4)
    | (go_at_call 27; refine (A3.out _ _ _ P4.out.1 P4.out.2.1 P4.out.2.2.1 P4.out.2.2.2).mono ?_; rintro E w5 ⟨rfl, J, ⟨i1, i3⟩, ⟨i4, i5, i6⟩, i7, i8, i9⟩; have J := hide J))
  all_goals
    go_wp2
    go_ret
    exact ⟨rfl, J.out⟩

end Go.Proofs.YtmkpaedemjiboaaGreat

/- The law's pair: what a next commit needs. -/
namespace Go.Proofs.YtmkpaedemjiboaaGreat
open Go.RowKit
set_option linter.unusedVariables false

theorem lastE_ok {l : List Cm.Cv} (h : Cm.Good 0 0 l) : 0 ≤ Cm.lastE 0 l ∧ Cm.lastE 0 l ≤ 1048576 := by
  rcases List.eq_nil_or_concat l with rfl | ⟨r, c, rfl⟩
  · exact ⟨by simp [Cm.lastE], by simp [Cm.lastE]⟩
  · have hk : (r.concat c)[r.length]? = some c := by rw [List.concat_eq_append]; simp
    obtain ⟨h1, h2, h3, h4, h5⟩ := Cm.chk_zero (Cm.good_at _ 0 0 r.length c h hk).1
    rw [last_at (k := r.length) (c := c) hk (by simp) 0]
    exact ⟨by omega, by omega⟩

theorem ocellsX_set : ∀ (l : List Bm.Ov) (i : Nat) (o : Bm.Ov), i < l.length → (((ocells l).set (i * 3) (.bool o.p)).set (i * 3 + 1) (.string o.k)).set (i * 3 + 2) (.string o.v) = ocells (l.set i o)
  | [], i, o, h => by simp at h
  | x :: r, 0, o, _ => by simp [ocells, ocell]
  | x :: r, i + 1, o, h => by
    have ih := ocellsX_set r i o (by simpa using h)
    have e : ∀ q : List Value, ocells (x :: r) = [.bool x.p, .string x.k, .string x.v] ++ ocells r := fun _ => rfl
    have e2 : ocells ((x :: r).set (i + 1) o) = [.bool x.p, .string x.k, .string x.v] ++ ocells (r.set i o) := rfl
    rw [e [], e2, ← ih]
    have h3 : (i + 1) * 3 = i * 3 + 3 := by omega
    rw [h3]
    simp

/-- An op is stored in a row of the call's own. -/
theorem own_putO {e base g n cap : Nat} {w : World} {l : List Bm.Ov} (h : OwnO e base w (.slice (some ⟨g, 0, none⟩) n cap) l) (hn : l.length = n) (i : Nat) (hi : i < n) (o : Bm.Ov) :
    ∃ W, ((w.setCell ⟨g, i * 3, none⟩ (.bool o.p)).setCell ⟨g, i * 3 + 1, none⟩ (.string o.k)).setCell ⟨g, i * 3 + 2, none⟩ (.string o.v) = W ∧ OwnO e base W (.slice (some ⟨g, 0, none⟩) n cap) (l.set i o) ∧ w.grownBy W (some g) := by
  subst hn
  unfold OwnO at h
  have s1 := h.stored (i * 3) (.bool o.p)
  have s2 := s1.1.stored (i * 3 + 1) (.string o.k)
  have s3 := s2.1.stored (i * 3 + 2) (.string o.v)
  refine ⟨_, rfl, ?_, grown_trans s1.2 (grown_trans s2.2 s3.2)⟩
  unfold OwnO
  rw [List.length_set, ← ocellsX_set l i o hi]
  exact s3.1

theorem own_atO {e base g n cap : Nat} {w : World} {l : List Bm.Ov} (h : OwnO e base w (.slice (some ⟨g, 0, none⟩) n cap) l) (hn : l.length = n) (i : Nat) (o : Bm.Ov) (ho : l[i]? = some o) :
    (w.cell? ⟨g, i * 3, none⟩ = some (.bool o.p) ∧ w.cell? ⟨g, i * 3 + 1, none⟩ = some (.string o.k) ∧ w.cell? ⟨g, i * 3 + 2, none⟩ = some (.string o.v)) ∧ (w.frozen? ⟨g, i * 3, none⟩ = false ∧ w.frozen? ⟨g, i * 3 + 1, none⟩ = false ∧ w.frozen? ⟨g, i * 3 + 2, none⟩ = false) := by
  subst hn
  unfold OwnO at h
  obtain ⟨hi, rfl⟩ := List.getElem?_eq_some_iff.1 ho
  obtain ⟨a0, a1, a2⟩ := ocells_at l i hi
  exact ⟨⟨by rw [h.cellAt (i * 3) (by omega)]; exact a0, by rw [h.cellAt (i * 3 + 1) (by omega)]; exact a1, by rw [h.cellAt (i * 3 + 2) (by omega)]; exact a2⟩, h.frozenAt _, h.frozenAt _, h.frozenAt _⟩

theorem own_fullO {e base n : Nat} {w : World} {v : Value} {l : List Bm.Ov} (h : OwnO e base w v l) (hn : l.length = n) (hp : 0 < n) : ∃ g cap, v = .slice (some ⟨g, 0, none⟩) n cap ∧ n ≤ cap ∧ cap ≤ maxLen ∧ base ≤ g ∧ g < w.heap.size := by
  rcases h.2 with ⟨_, hz⟩ | ⟨g, cap, cur, hv, h1, hh, hc, hm, hs, ht⟩
  · omega
  · exact ⟨g, cap, by rw [hv, hn], by omega, hm, h1, blk_lt hh⟩

/-- What is not the pair's is written. -/
theorem PV.outside {w0 w w' : World} {r p q x y : Nat} {s t : Wl.Ws} {F G K : Nat → Prop} (h : PV w0 r w s t p q x y F G) (ho : Out K w w') (hK : ∀ g, K g → ¬ F g ∧ ¬ G g ∧ g ≠ r ∧ w0.heap.size ≤ g) : PV w0 r w' s t p q x y F G :=
  ⟨(ho.block r (blk_lt h.blk) fun e => (hK r e).2.2.1 rfl).trans h.blk, h.ww.out ho fun g hg e => (hK g e).1 hg, h.xx.out ho fun g hg e => (hK g e).2.1 hg, h.ap, h.nf, h.ng, h.fb, h.gb, h.rb, h.bel.trans (ho.below (fun g e => (hK g e).2.2.2) h.bel.size)⟩

end Go.Proofs.YtmkpaedemjiboaaGreat
