/- Texts of one layer, one behind the other. -/
import Derived.Test.YtmmfakpphjjjfaaGreatG43
import Derived.Test.YtmmfakpphjjjfaaGreatDg
import Derived.Test.YtmmfakpphjjjfaaGreatPj
import Derived.Test.YtmmfakpphjjjfaaGreatG18
import Derived.Test.YtmmfakpphjjjfaaGreatProg
import Derived.SizedLaws
import Derived.Lib.SmallJoins
import Derived.Deep.Slices
import Derived.Test.YtmmfakpphjjjfaaGreatG5
/- The law's pair: a call of both. -/
namespace Go.Proofs.YtmmfakpphjjjfaaGreat
open Go.RowKit
set_option linter.unusedVariables false

section
variable {w0 w : World} {r p q x y : Nat} {s t : Rl.Rs} {F G : Nat → Prop}

end

end Go.Proofs.YtmmfakpphjjjfaaGreat

/- The law's next: a run of an act's ops. -/
namespace Go.Proofs.YtmmfakpphjjjfaaGreat
open Go.RowKit
open Bm (Ov)
set_option linter.unusedVariables false

end Go.Proofs.YtmmfakpphjjjfaaGreat

/- Ops that are written over; what is outside of a pair of runs. -/
namespace Go.Proofs.YtmmfakpphjjjfaaGreat
open Go.RowKit
set_option linter.unusedVariables false

theorem isO_lt {w : World} {v : Value} {l : List Bm.Ov} (h : IsO w v l) (hl : 0 < l.length) {b : Nat} (hb : v.ownBlock = some b) : b < w.heap.size := by
 rcases h with ⟨_, h⟩ | ⟨ad, cap, hv, h1, h2, hc⟩
 ·subst h
  simp at hl
 ·subst hv
  have e : ad.block = b := by simpa [Value.ownBlock] using hb
  obtain ⟨o, r, rfl⟩ : ∃ o r, l = o :: r := by
   rcases l with _ | ⟨o, r⟩
   ·simp at hl
   ·exact ⟨o, r, rfl⟩
  have hk := hc 0 (.bool o.p) rfl
  have hlt := World.block_lt_of_cell? _ _ hk
  have eb : (ad.add 0).block = ad.block := by unfold Addr.add; split <;> rfl
  rw [eb, e] at hlt
  exact hlt

theorem ocellsX_set : ∀ (l : List Bm.Ov) (i : Nat) (o : Bm.Ov), i < l.length → (((ocells l).set (i * 3) (.bool o.p)).set (i * 3 + 1) (.string o.k)).set (i * 3 + 2) (.string o.v) = ocells (l.set i o)
 | [], i, o, h => by simp at h
 | x :: r, 0, o, _ => by simp [ocells, ocell]
 | x :: r, i + 1, o, h => by
  have ih := ocellsX_set r i o (by simpa using h)
  have e : ∀ q : List Value, ocells (x :: r) = [.bool x.p, .string x.k, .string x.v] ++ ocells r := fun _ => rfl
  have e2 : ocells ((x :: r).set (i + 1) o) = [.bool x.p, .string x.k, .string x.v] ++ ocells (r.set i o) := rfl
  rw [e [], e2, ← ih]
  have h3 : (i + 1) * 3 = i * 3 + 3 := by omega
  rw [h3]
  simp

theorem own_putO {e base g n cap : Nat} {w : World} {l : List Bm.Ov} (h : OwnO e base w (.slice (some ⟨g, 0, none⟩) n cap) l) (hn : l.length = n) (i : Nat) (hi : i < n) (o : Bm.Ov) :
  ∃ W, ((w.setCell ⟨g, i * 3, none⟩ (.bool o.p)).setCell ⟨g, i * 3 + 1, none⟩ (.string o.k)).setCell ⟨g, i * 3 + 2, none⟩ (.string o.v) = W ∧ OwnO e base W (.slice (some ⟨g, 0, none⟩) n cap) (l.set i o) ∧ w.grownBy W (some g) := by
 subst hn
 unfold OwnO at h
 have s1 := h.stored (i * 3) (.bool o.p)
 have s2 := s1.1.stored (i * 3 + 1) (.string o.k)
 have s3 := s2.1.stored (i * 3 + 2) (.string o.v)
 refine ⟨_, rfl, ?_, grown_trans s1.2 (grown_trans s2.2 s3.2)⟩
 unfold OwnO
 rw [List.length_set, ← ocellsX_set l i o hi]
 exact s3.1

theorem own_atO {e base g n cap : Nat} {w : World} {l : List Bm.Ov} (h : OwnO e base w (.slice (some ⟨g, 0, none⟩) n cap) l) (hn : l.length = n) (i : Nat) (o : Bm.Ov) (ho : l[i]? = some o) :
  (w.cell? ⟨g, i * 3, none⟩ = some (.bool o.p) ∧ w.cell? ⟨g, i * 3 + 1, none⟩ = some (.string o.k) ∧ w.cell? ⟨g, i * 3 + 2, none⟩ = some (.string o.v)) ∧ (w.frozen? ⟨g, i * 3, none⟩ = false ∧ w.frozen? ⟨g, i * 3 + 1, none⟩ = false ∧ w.frozen? ⟨g, i * 3 + 2, none⟩ = false) := by
 subst hn
 unfold OwnO at h
 obtain ⟨hi, rfl⟩ := List.getElem?_eq_some_iff.1 ho
 obtain ⟨a0, a1, a2⟩ := ocells_at l i hi
 exact ⟨⟨by rw [h.cellAt (i * 3) (by omega)]; exact a0, by rw [h.cellAt (i * 3 + 1) (by omega)]; exact a1, by rw [h.cellAt (i * 3 + 2) (by omega)]; exact a2⟩, h.frozenAt _, h.frozenAt _, h.frozenAt _⟩

end Go.Proofs.YtmmfakpphjjjfaaGreat

/- Two stores: a commit is applied. -/
namespace Go.Proofs.YtmmfakpphjjjfaaGreat
open Go.RowKit
open Bm (Ov)
set_option linter.unusedVariables false

set_option maxRecDepth 20000 in
set_option maxHeartbeats 8000000 in
theorem scall0 (w0 w : World) (s : Sto.Ss) (ps p q xs x y : Nat) (F G : Nat → Prop) (h : TP w0 w s s ps p q xs x y F G) (k : Nat) (hin : SIn k s) (hk : k ≤ 80) (a : Bc) (ha : BcOk w0 a) (hfit : FitO a.c.l) (h40 : a.c.l.length ≤ 40) (hp : pk a.k 4 = 0) :
  Calls Tryz.prog 16 #[.pointer (some ⟨ps, 0, none⟩), .pointer (some ⟨xs, 0, none⟩), bcv a] w fun E w' => E = .returned (.bool true) ∧ TD w0 ps p q xs x y k w' := by
 unfold bcv
 obtain ⟨ao, cap, hcv, _, _⟩ := ha.1.shape
 obtain ⟨w1, hw1, sz1, bel1, hB⟩ := blk_step w #[.int .i64 a.k, .int .i64 a.n, .int .i64 a.c.e, .int .i64 a.c.n, a.c.v] 52
 have c0 : w1.cell? ⟨w.heap.size, 0, none⟩ = some (.int .i64 a.k) := blk_cell hB 0 rfl
 have c3 : w1.cell? ⟨w.heap.size, 2, none⟩ = some (.int .i64 a.c.e) := blk_cell hB 2 rfl
 have c4 : w1.cell? ⟨w.heap.size, 3, none⟩ = some (.int .i64 a.c.n) := blk_cell hB 3 rfl
 have c5 : w1.cell? ⟨w.heap.size, 4, none⟩ = some a.c.v := blk_cell hB 4 rfl
 have PK : Hid (∀ W, Calls Tryz.prog 18 #[.int .i64 a.k, .int .i64 4] W fun E w' => E = .returned (.int .i64 0) ∧ W = w') := hide fun W => by
  have := pickx_any a.k 4 W (by decide) (by decide) ha.2.1.1
  rw [hp] at this
  exact this
 obtain ⟨U, hX1, hX2, szX, belX, bX, x0, x1, x2⟩ := new_step w1 50 (.int .i64 0) (.int .i64 0) (.slice none 0 0) (.int .i64 a.c.e) (.int .i64 a.c.n) a.c.v
 have b0 : U.cell? ⟨w.heap.size, 0, none⟩ = some (.int .i64 a.k) := blk_cell ((belX.block w.heap.size (by omega)).trans hB) 0 rfl
 have bU : Below w.heap.size w U := bel1.trans (belX.mono bel1.size)
 have hrest := hin.rest
 have HIN := hide hin
 have HLF := hide h.ss.lt
 have HLG := hide h.yy.lt
 have HW0 := hide h.bel.size
 have HA := hide ha
 have SZ := hide (show w1.heap.size = w.heap.size + 1 ∧ U.heap.size = w1.heap.size + 1 from ⟨sz1, szX⟩)
 have LB : Hid (0 < a.c.l.length → ∀ b, (Value.slice ao a.c.l.length cap).ownBlock = some b → b < w0.heap.size) := hide fun hl b hb => isO_lt (b := b) ha.1 hl (by rw [hcv]; exact hb)
 have NB : Hid (0 < a.c.l.length → ∀ b, (Value.slice ao a.c.l.length cap).ownBlock = some b → ¬ F b ∧ ¬ G b) := hide fun hl b hb => by
  have h1 := LB.out hl b hb
  exact ⟨fun e => by have := h.fb b e; omega, fun e => by have := h.gb b e; omega⟩
 rw [hcv] at hw1 c5 hX1 hX2 bX x2 ⊢
 have HCV := hide hcv
 have PU : Hid (U.heap[w1.heap.size]? = some (.cells #[.int .i64 a.c.e, .int .i64 a.c.n, .slice ao a.c.l.length cap] 50 (0, 0))) := hide bX
 have HP := hide (h.below bU)
 have IOP : Hid (IsO U (.slice ao a.c.l.length cap) a.c.l) := hide (by rw [← hcv]; exact ha.1.below (h.below bU).bel)
 have FT : Hid (FitO a.c.l ∧ a.c.l.length ≤ 40 ∧ In64 a.c.e ∧ In64 a.c.n) := hide ⟨hfit, h40, ha.2.2⟩
 have BW := hide bU
 clear h hin hB hcv ha hfit hp bel1 belX bX bU sz1 szX
 go_enter Tryz.func16, Tryz.ntmps16
 go_wp2_with fail
 refine (PK.out _).mono ?_
 rintro E w2 ⟨rfl, rfl⟩
 go_wp2_with fail
 refine (PK.out _).mono ?_
 rintro E w2 ⟨rfl, rfl⟩
 clear PK hX1 hX2 c0 c3 c4 c5 b0
 have G5 : Hid (¬ F w1.heap.size ∧ ¬ G w1.heap.size ∧ w0.heap.size ≤ w1.heap.size) := hide (by
  have h7 := SZ.out.1
  have h5 := HW0.out
  exact ⟨fun e => by have := HLF.out _ e; omega, fun e => by have := HLG.out _ e; omega, by omega⟩)
 generalize hcl : a.c.l = cl at *
 generalize hnn : a.c.n = nn at *
 generalize hne : a.c.e = ne at *
 generalize hg5 : w1.heap.size = g5 at *
 clear hcl hne hnn hg5
 have u0 : U.cell? ⟨g5, 0, none⟩ = some (.int .i64 ne) := blk_cell PU.out 0 rfl
 have u1 : U.cell? ⟨g5, 1, none⟩ = some (.int .i64 nn) := blk_cell PU.out 1 rfl
 have u2 : U.cell? ⟨g5, 2, none⟩ = some (.slice ao cl.length cap) := blk_cell PU.out 2 rfl
 have LN := hide (lentC_any ne nn (.slice ao cl.length cap) cl U IOP.out (by have := FT.out.2.1; omega))
 unfold cmv at LN
 go_wp2_with fail
 refine LN.out.mono ?_
 rintro E w7 ⟨v7, rfl, LV, bel7⟩
 obtain ⟨V, hV1, hV2, szV, belV, bV, y0, y1, y2⟩ := new_step w7 50 (.int .i64 0) (.int .i64 0) (.slice none 0 0) (.int .i64 ne) (.int .i64 nn) v7
 obtain ⟨g7, k7, hv7, hc7, hm7, own7⟩ := LV
 generalize hn : cl.length = n at *
 subst hv7
 have hn40 : n ≤ 40 := FT.out.2.1
 have sz7 := bel7.size
 have b7V := bel7.trans (belV.mono bel7.size)
 have hb7 : U.heap.size ≤ g7 ∧ g7 < w7.heap.size := OwnO.block own7 g7 rfl
 have LVV : Hid (LentV U.heap.size V (.slice (some ⟨g7, 0, none⟩) n k7) cl) := hide ⟨g7, k7, by rw [hn], by rw [hn]; exact hc7, hm7, by rw [hn]; exact own7.below belV⟩
 have PV := hide (HP.out.below b7V)
 have BV := hide ((b7V.block g5 (blk_lt PU.out)).trans PU.out)
 have IV := hide (IOP.out.below b7V)
 have CV := hide bV
 have BU := hide (show w.heap.size ≤ U.heap.size from BW.out.size)
 have VS := hide (show w7.heap.size ≤ V.heap.size from belV.size)
 have HG5 : Hid (g5 < U.heap.size) := hide (blk_lt PU.out)
 have AP : Hid (Calls Tryz.prog 50 #[.pointer (some ⟨ps, 0, none⟩), .agg #[.int .i64 ne, .int .i64 nn, .slice (some ⟨g7, 0, none⟩) n k7]] V fun E w' => E = .returned (.int .i64 (Sto.apl s ⟨ne, nn, cl⟩).1) ∧ ∃ F', TP w0 w' (Sto.apl s ⟨ne, nn, cl⟩).2 s ps p q xs x y F' G ∧ (∀ g, F' g → F g ∨ V.heap.size ≤ g) ∧ LentV U.heap.size w' (.slice (some ⟨g7, 0, none⟩) n k7) cl ∧ w'.heap[g5]? = some (.cells #[.int .i64 ne, .int .i64 nn, .slice ao n cap] 50 (0, 0)) ∧ w'.heap[w7.heap.size]? = some (.cells #[.int .i64 ne, .int .i64 nn, .slice (some ⟨g7, 0, none⟩) n k7] 50 (0, 0)) ∧ IsO w' (.slice ao n cap) cl) := hide (by
  have z1 := BU.out
  have hP := PV.out
  refine (hP.callS (sapply_any ps p q F V s ⟨ne, nn, .slice (some ⟨g7, 0, none⟩) n k7, cl⟩ hP.ss LVV.out.is FT.out.1 FT.out.2.2 (by show cl.length * 40 ≤ _; omega) (fun _ b hb hf => by
   have j1 : g7 = b := by simpa [Value.ownBlock] using hb
   have j2 := HLF.out b hf
   omega) (by omega))).mono ?_
  rintro E w' ⟨rfl, F', k1, o1, s1⟩
  refine ⟨rfl, F', k1, s1, ?_, (o1.block g5 (blk_lt BV.out) G5.out.1).trans BV.out, (o1.block w7.heap.size (blk_lt CV.out) (fun e => by have := HLF.out _ e; omega)).trans CV.out, IV.out.out o1 fun hl b hb => (NB.out (by omega) b hb).1⟩
  obtain ⟨g9, k9, e9, c9, m9, own9⟩ := LVV.out
  refine ⟨g9, k9, e9, c9, m9, row_agree own9 fun b hb => o1.block b (OwnO.block own9 b hb).2 fun e => ?_⟩
  have j1 := (OwnO.block own9 b hb).1
  have j2 := HLF.out b e
  omega)
 have APY : Hid (∀ W F', TP w0 W (Sto.apl s ⟨ne, nn, cl⟩).2 s ps p q xs x y F' G → IsO W (.slice ao n cap) cl → Calls Tryz.prog 51 #[.pointer (some ⟨xs, 0, none⟩), .agg #[.int .i64 ne, .int .i64 nn, .slice ao n cap]] W fun E w' => E = .returned (.int .i64 (Sto.apl s ⟨ne, nn, cl⟩).1) ∧ TD w0 ps p q xs x y k w') := hide fun W F' hP hI => by
  refine (hP.callY (dapply_any xs x y G W s ⟨ne, nn, .slice ao n cap, cl⟩ hP.yy hI FT.out.1 FT.out.2.2 (by show cl.length * 40 ≤ _; omega) (by omega))).mono ?_
  rintro E w' ⟨rfl, G', k1, o1, _⟩
  exact ⟨rfl, ⟨_, F', G', k1, sin_apl HIN.out _⟩⟩
 generalize hz : (Sto.apl s ⟨ne, nn, cl⟩).1 = z at *
 have hzz : (z == z) = true := by simp
 have HN := hide hn
 clear hz own7 bel7 LN u0 u1 u2 PU HP IOP hn belV bV b7V szV PV BV IV CV LVV
 go_wp2_with fail
 refine AP.out.mono ?_
 rintro E w8 ⟨rfl, F8, T8, N8, L8, B8, C8, I8⟩
 have K9 := hide (keptC_yes ne nn (.slice (some ⟨g7, 0, none⟩) n k7) (.slice ao n cap) cl U.heap.size w8 L8 I8 (by have := HN.out; omega))
 unfold cmv at K9
 have e0 := blk_cell C8 0 rfl
 have e1 := blk_cell C8 1 rfl
 have e2 := blk_cell C8 2 rfl
 have d0 := blk_cell B8 0 rfl
 have d1 := blk_cell B8 1 rfl
 have d2 := blk_cell B8 2 rfl
 simp only [List.getElem_toArray, List.getElem_cons_zero, List.getElem_cons_succ] at e0 e1 e2 d0 d1 d2
 have T8 := hide T8
 have L8 := hide L8
 have B8 := hide B8
 have C8 := hide C8
 have I8 := hide I8
 have N8 := hide N8
 clear AP
 go_wp2_with fail
 refine K9.out.mono ?_
 rintro E w9 ⟨rfl, bel9⟩
 have T9 := hide (show TP w0 w9 (Sto.apl s ⟨ne, nn, cl⟩).2 s ps p q xs x y F8 G ∧ OwnO 65 U.heap.size w9 (.slice (some ⟨g7, 0, none⟩) (n + 3) k7) (cl ++ [behind, behind, behind]) ∧ w9.heap[g5]? = some (.cells #[.int .i64 ne, .int .i64 nn, .slice ao n cap] 50 (0, 0)) ∧ w9.heap[w7.heap.size]? = some (.cells #[.int .i64 ne, .int .i64 nn, .slice (some ⟨g7, 0, none⟩) n k7] 50 (0, 0)) ∧ IsO w9 (.slice ao n cap) cl from by
  obtain ⟨g9, k9, h9, c9, m9, own9⟩ := L8.out
  rw [HN.out] at h9 own9
  simp only [Value.slice.injEq, Option.some.injEq, Addr.mk.injEq, and_true, true_and] at h9
  obtain ⟨rfl, rfl⟩ := h9
  exact ⟨T8.out.below bel9, own9.below bel9, (bel9.block g5 (blk_lt B8.out)).trans B8.out, (bel9.block w7.heap.size (blk_lt C8.out)).trans C8.out, I8.out.below bel9⟩)
 clear bel9 T8 L8 B8 C8 I8 K9 e0 e1 e2 d0 d1 d2
 go_wp2
 go_loopw [11] (fun iv wr => ∃ (i : Nat) (l' : List Bm.Ov), i ≤ n ∧ iv = .int .i64 i ∧ l'.length = n + 3 ∧ Hid (TP w0 wr (Sto.apl s ⟨ne, nn, cl⟩).2 s ps p q xs x y F8 G ∧ OwnO 65 U.heap.size wr (.slice (some ⟨g7, 0, none⟩) (n + 3) k7) l' ∧ wr.heap[g5]? = some (.cells #[.int .i64 ne, .int .i64 nn, .slice ao n cap] 50 (0, 0)) ∧ wr.heap[w7.heap.size]? = some (.cells #[.int .i64 ne, .int .i64 nn, .slice (some ⟨g7, 0, none⟩) n k7] 50 (0, 0)) ∧ IsO wr (.slice ao n cap) cl)) (fun iv _ => n - (intOf iv).toNat)
 case atStart => exact ⟨0, cl ++ [behind, behind, behind], by omega, rfl, by simp [HN.out], T9⟩
 case round =>
  obtain ⟨i, l', hi, rfl, hll, HT⟩ := hrel
  clear T9
  have e2 : wr.cell? ⟨w7.heap.size, 2, none⟩ = some (.slice (some ⟨g7, 0, none⟩) n k7) := blk_cell HT.out.2.2.2.1 2 rfl
  by_cases hlt : i < n
  ·obtain ⟨o, ho⟩ : ∃ o, l'[i]? = some o := ⟨l'[i]'(by omega), by rw [List.getElem?_eq_getElem]⟩
   obtain ⟨⟨m0, m1, m2⟩, ⟨f0, f1, f2⟩⟩ := own_atO HT.out.2.1 hll i o ho
   obtain ⟨W, hW, ownW, gW⟩ := own_putO HT.out.2.1 hll i (by omega) ⟨false, ⟨#[111, 118, 101, 114]⟩, ⟨#[]⟩⟩
   have oW : Out (fun g => g = g7) wr W := Out.of_grown gW fun g hg => by simp at hg; exact hg.symm
   have HT2 := hide (show TP w0 W (Sto.apl s ⟨ne, nn, cl⟩).2 s ps p q xs x y F8 G ∧ OwnO 65 U.heap.size W (.slice (some ⟨g7, 0, none⟩) (n + 3) k7) (l'.set i ⟨false, ⟨#[111, 118, 101, 114]⟩, ⟨#[]⟩⟩) ∧ W.heap[g5]? = some (.cells #[.int .i64 ne, .int .i64 nn, .slice ao n cap] 50 (0, 0)) ∧ W.heap[w7.heap.size]? = some (.cells #[.int .i64 ne, .int .i64 nn, .slice (some ⟨g7, 0, none⟩) n k7] 50 (0, 0)) ∧ IsO W (.slice ao n cap) cl from by
    have w00 := HW0.out
    have hbu := BU.out
    have hg5 := HG5.out
    refine ⟨HT.out.1.outside oW fun g e => ?_, ownW, (oW.block g5 (blk_lt HT.out.2.2.1) (by omega)).trans HT.out.2.2.1, (oW.block w7.heap.size (blk_lt HT.out.2.2.2.1) (by omega)).trans HT.out.2.2.2.1, HT.out.2.2.2.2.out oW fun hl b hb e => ?_⟩
    ·subst e
     refine ⟨fun e => ?_, fun e => ?_, by omega⟩
     ·rcases N8.out _ e with a | a
      ·have := HLF.out _ a
       omega
      ·have h1 := VS.out
       omega
     ·have := HLG.out _ e
      omega
    ·have := LB.out (by have := HN.out; omega) b hb
     omega)
   have hlt' : (i : Int) < n := by omega
   have hi0 : (0 : Int) ≤ (i : Int) := by omega
   clear ownW gW oW
   go_wp2
   go_roundw
   case rel => exact ⟨i + 1, _, by omega, by go_num, by rw [List.length_set]; exact hll, HT2⟩
   case measure => simp [intOf]; omega
  ·obtain rfl : i = n := by omega
   have hlt' : ¬ (i : Int) < i := by omega
   have z0 := blk_cell HT.out.2.2.1 0 rfl
   have z1 := blk_cell HT.out.2.2.1 1 rfl
   have z2 := blk_cell HT.out.2.2.1 2 rfl
   simp only [List.getElem_toArray, List.getElem_cons_zero, List.getElem_cons_succ] at z0 z1 z2
   have AY := hide (APY.out wr F8 HT.out.1 HT.out.2.2.2.2)
   clear HT APY
   go_wp2_with fail
   refine AY.out.mono ?_
   rintro E wz ⟨rfl, J⟩
   have J := hide J
   clear AY
   go_wp2
   go_ret
   exact ⟨rfl, J.out⟩

end Go.Proofs.YtmmfakpphjjjfaaGreat

/- The steps of a region of a call's. -/
namespace Go.Proofs.YtmmfakpphjjjfaaGreat
open Go.RowKit
set_option linter.unusedVariables false

theorem wzu_new : Array.replicate 5 false = lst 5 0 := by kernel_rfl

theorem wzu_size : (regOf 6 Tryz.f16).size = 5 := by kernel_rfl

theorem wzu_t0_0 : Region.free .any (regOf 6 Tryz.f16) (lst 5 0) 0 = true ∧ (Region.ready .any (regOf 6 Tryz.f16) (lst 5 0)).contains 0 = true ∧ (lst 5 0).setIfInBounds 0 true = lst 5 1 := ⟨by kernel_rfl, by kernel_rfl, by kernel_rfl⟩

theorem wzu_t1_1 : Region.free .any (regOf 6 Tryz.f16) (lst 5 1) 1 = true ∧ (Region.ready .any (regOf 6 Tryz.f16) (lst 5 1)).contains 1 = true ∧ (lst 5 1).setIfInBounds 1 true = lst 5 3 := ⟨by kernel_rfl, by kernel_rfl, by kernel_rfl⟩

theorem wzu_r3 : Region.ready .any (regOf 6 Tryz.f16) (lst 5 3) = [2] ∧ (lst 5 3).setIfInBounds 2 true = lst 5 7 := ⟨by kernel_rfl, by kernel_rfl⟩

theorem wzu_r7 : Region.ready .any (regOf 6 Tryz.f16) (lst 5 7) = [3] ∧ (lst 5 7).setIfInBounds 3 true = lst 5 15 := ⟨by kernel_rfl, by kernel_rfl⟩

theorem wzu_r15 : Region.ready .any (regOf 6 Tryz.f16) (lst 5 15) = [4] ∧ (lst 5 15).setIfInBounds 4 true = lst 5 31 := ⟨by kernel_rfl, by kernel_rfl⟩

theorem wzu_end : Region.ready .any (regOf 6 Tryz.f16) (lst 5 31) = [] := by kernel_rfl

end Go.Proofs.YtmmfakpphjjjfaaGreat

/- Two stores: the next commit is applied. -/
namespace Go.Proofs.YtmmfakpphjjjfaaGreat
open Go.RowKit
open Bm (Ov)
set_option linter.unusedVariables false

set_option maxRecDepth 20000 in
set_option maxHeartbeats 8000000 in
theorem scall1 (w0 w : World) (s : Sto.Ss) (ps p q xs x y : Nat) (F G : Nat → Prop) (h : TP w0 w s s ps p q xs x y F G) (k : Nat) (hin : SIn k s) (hk : k ≤ 80) (a : Bc) (ha : BcOk w0 a) (hfit : FitO a.c.l) (h40 : a.c.l.length ≤ 40) (hp : pk a.k 4 = 1) :
  Calls Tryz.prog 16 #[.pointer (some ⟨ps, 0, none⟩), .pointer (some ⟨xs, 0, none⟩), bcv a] w fun E w' => E = .returned (.bool true) ∧ TD w0 ps p q xs x y k w' := by
 unfold bcv
 obtain ⟨ao, cap, hcv, _, _⟩ := ha.1.shape
 obtain ⟨w1, hw1, sz1, bel1, hB⟩ := blk_step w #[.int .i64 a.k, .int .i64 a.n, .int .i64 a.c.e, .int .i64 a.c.n, a.c.v] 52
 have c0 : w1.cell? ⟨w.heap.size, 0, none⟩ = some (.int .i64 a.k) := blk_cell hB 0 rfl
 have c3 : w1.cell? ⟨w.heap.size, 2, none⟩ = some (.int .i64 a.c.e) := blk_cell hB 2 rfl
 have c4 : w1.cell? ⟨w.heap.size, 3, none⟩ = some (.int .i64 a.c.n) := blk_cell hB 3 rfl
 have c5 : w1.cell? ⟨w.heap.size, 4, none⟩ = some a.c.v := blk_cell hB 4 rfl
 have PK : Hid (∀ W, Calls Tryz.prog 18 #[.int .i64 a.k, .int .i64 4] W fun E w' => E = .returned (.int .i64 1) ∧ W = w') := hide fun W => by
  have := pickx_any a.k 4 W (by decide) (by decide) ha.2.1.1
  rw [hp] at this
  exact this
 obtain ⟨wX, hX1, hX2, szX, belX, bX, x0, x1, x2⟩ := new_step w1 50 (.int .i64 0) (.int .i64 0) (.slice none 0 0) (.int .i64 a.c.e) (.int .i64 a.c.n) a.c.v
 have b0 : wX.cell? ⟨w.heap.size, 0, none⟩ = some (.int .i64 a.k) := blk_cell ((belX.block w.heap.size (by omega)).trans hB) 0 rfl
 have bwX : Below w.heap.size w wX := bel1.trans (belX.mono bel1.size)
 have hrest := hin.rest
 have HIN := hide hin
 have HLF := hide h.ss.lt
 have HLG := hide h.yy.lt
 have HW0 := hide h.bel.size
 have HA := hide ha
 have SZ := hide (show w1.heap.size = w.heap.size + 1 ∧ wX.heap.size = w1.heap.size + 1 from ⟨sz1, szX⟩)
 have LB : Hid (0 < a.c.l.length → ∀ b, (Value.slice ao a.c.l.length cap).ownBlock = some b → b < w0.heap.size) := hide fun hl b hb => isO_lt (b := b) ha.1 hl (by rw [hcv]; exact hb)
 have NB : Hid (0 < a.c.l.length → ∀ b, (Value.slice ao a.c.l.length cap).ownBlock = some b → ¬ F b ∧ ¬ G b) := hide fun hl b hb => by
  have h1 := LB.out hl b hb
  exact ⟨fun e => by have := h.fb b e; omega, fun e => by have := h.gb b e; omega⟩
 rw [hcv] at hw1 c5 hX1 hX2 bX x2 ⊢
 have HCV := hide hcv
 have ok := h.yy.ok
 obtain ⟨q1, q2, q3, q4⟩ := ok.bound
 have hfin : Sto.fin s = Cm.lastN 0 s.r.l + s.l.length := rfl
 obtain ⟨hp0, hp1⟩ := pk_lt a.c.e 3 (by omega)
 have SX : Hid (∀ W, Below w1.heap.size w1 W → W.cell? ⟨w.heap.size, 0, none⟩ = some (.int .i64 a.k) ∧ W.cell? ⟨w.heap.size, 1, none⟩ = some (.int .i64 a.n) ∧ W.cell? ⟨w.heap.size, 2, none⟩ = some (.int .i64 a.c.e) ∧ W.cell? ⟨w.heap.size, 3, none⟩ = some (.int .i64 a.c.n) ∧ W.cell? ⟨w.heap.size, 4, none⟩ = some (.slice ao a.c.l.length cap)) := hide fun W hW => by
  have hb2 := (hW.block w.heap.size (by omega)).trans hB
  exact ⟨blk_cell hb2 0 rfl, blk_cell hb2 1 rfl, blk_cell hb2 2 rfl, blk_cell hb2 3 rfl, (blk_cell hb2 4 rfl).trans (by rw [← hcv]; rfl)⟩
 have HEN : Hid (∀ W, Below w1.heap.size w1 W → Calls Tryz.prog 49 #[.pointer (some ⟨xs, 0, none⟩)] W fun E w' => E = .returned (.int .i64 (Sto.fin s)) ∧ Below W.heap.size W w') := hide fun W hW => dEnd_any xs x y G W s ((h.below bel1).below hW).yy
 have HNX : Hid (∀ W, Below w1.heap.size w1 W → Calls Tryz.prog 48 #[.agg #[.int .i64 a.k, .int .i64 a.n, .int .i64 a.c.e, .int .i64 a.c.n, .slice ao a.c.l.length cap], .int .i64 (Sto.fin s)] W fun E w' => E = .returned (.agg #[.int .i64 (1 + pk a.c.e 3), .int .i64 (Sto.fin s + 1), .slice ao a.c.l.length cap]) ∧ Below W.heap.size W w') := hide fun W hW => by
  have := snext_any a (Sto.fin s) W (ha.below ((h.below bel1).below hW).bel) ⟨by omega, by omega⟩
  unfold cmv at this
  rw [hcv] at this
  exact this
 obtain ⟨W0, hW0⟩ : ∃ x, wX.drew = x := ⟨_, rfl⟩
 have bel0 : Below w1.heap.size w1 W0 := by rw [← hW0]; exact belX.drew
 have hX0 : W0.heap[w1.heap.size]? = some (.cells #[.int .i64 a.c.e, .int .i64 a.c.n, .slice ao a.c.l.length cap] 50 (0, 0)) := by rw [← hW0]; exact bX
 have TP1 := hide (h.below bel1)
 have BE1 := hide bel1
 have FT : Hid (FitO a.c.l ∧ a.c.l.length ≤ 40 ∧ In64 (1 + pk a.c.e 3) ∧ In64 (Sto.fin s + 1)) := hide ⟨hfit, h40, ⟨by omega, by omega⟩, ⟨by omega, by omega⟩⟩
 generalize Sto.fin s = fi at *
 generalize pk a.c.e 3 = pp at *
 clear h hin hB hcv ha hfit hp bel1 belX bX bwX sz1 szX ok hfin
 go_enter Tryz.func16, Tryz.ntmps16
 go_wp2_with fail
 refine (PK.out _).mono ?_
 rintro E w2 ⟨rfl, rfl⟩
 go_wp2_with fail
 refine (PK.out _).mono ?_
 rintro E w2 ⟨rfl, rfl⟩
 clear PK hX1 hX2 c0 c3 c4 c5 b0
 go_wp2_with fail
 refine region_any (ops := (regOf 6 Tryz.f16)) (S := fun W => W.cell? ⟨w.heap.size, 0, none⟩ = some (.int .i64 a.k) ∧ W.cell? ⟨w.heap.size, 1, none⟩ = some (.int .i64 a.n) ∧ W.cell? ⟨w.heap.size, 2, none⟩ = some (.int .i64 a.c.e) ∧ W.cell? ⟨w.heap.size, 3, none⟩ = some (.int .i64 a.c.n) ∧ W.cell? ⟨w.heap.size, 4, none⟩ = some (.slice ao a.c.l.length cap)) (by kernel_rfl) wzu_size ?_
 rw [wzu_new, hW0]
 refine any_take (v := ?_) wzu_t0_0 (by kernel_rfl) (fun _ _ _ _ _ h => h) (SX.out _ bel0) rfl rfl (by rfl) ?_ ?_
 rotate_left 1
 ·intro w hS
  (try dsimp only at hS)
  go_simp
  all_goals with_reducible rfl
 simp only [Act.put, List.setIfInBounds_toArray, List.set_cons_zero, List.set_cons_succ]
 refine any_take (v := ?_) wzu_t1_1 (by kernel_rfl) (fun _ _ _ _ _ h => h) (SX.out _ bel0) rfl rfl (by rfl) ?_ ?_
 rotate_left 1
 ·intro w hS
  (try dsimp only at hS)
  go_simp
  all_goals with_reducible rfl
 simp only [Act.put, List.setIfInBounds_toArray, List.set_cons_zero, List.set_cons_succ]
 refine any_one wzu_r3 ?_
 refine any_op rfl (by rfl) (fun K hK => ?_)
 go_simp
 refine (HEN.out _ bel0).mono ?_
 rintro E W1 ⟨rfl, st1⟩
 have bel1 := bel0.trans (st1.mono bel0.size)
 have hX1 := (st1.block _ (blk_lt hX0)).trans hX0
 go_wp2_with fail
 refine hK.out _ _ (SX.out _ bel1) ?_
 clear hK K
 try simp only [Act.put, List.setIfInBounds_toArray, List.set_cons_zero, List.set_cons_succ]
 refine any_one wzu_r7 ?_
 refine any_op rfl (by rfl) (fun K hK => ?_)
 go_simp
 refine (HNX.out _ bel1).mono ?_
 rintro E W2 ⟨rfl, st2⟩
 have bel2 := bel1.trans (st2.mono bel1.size)
 have hX2 := (st2.block _ (blk_lt hX1)).trans hX1
 go_wp2_with fail
 refine hK.out _ _ (SX.out _ bel2) ?_
 clear hK K
 try simp only [Act.put, List.setIfInBounds_toArray, List.set_cons_zero, List.set_cons_succ]
 refine any_one wzu_r15 ?_
 obtain ⟨U, hU, bU, gU, ⟨p0, p1, p2⟩, ⟨f0, f1, f2⟩, ⟨z0, z1, z2⟩⟩ := res_step hX2 (.int .i64 (1 + pp)) (.int .i64 (fi + 1)) (.slice ao a.c.l.length cap)
 have belU := below_put bel2 gU (Nat.le_refl _) bel2.size
 refine any_op rfl (by rfl) (fun K hK => ?_)
 go_simp
 go_wp2_with fail
 refine hK.out _ _ (SX.out _ belU) ?_
 clear hK K
 try simp only [Act.put, List.setIfInBounds_toArray, List.set_cons_zero, List.set_cons_succ]
 refine any_done wzu_end ?_
 have bU := bU
 have PU : Hid (U.heap[w1.heap.size]? = some (.cells #[.int .i64 (1 + pp), .int .i64 (fi + 1), .slice ao a.c.l.length cap] 50 (0, 0))) := hide bU
 have HP := hide (TP1.out.below belU)
 have IOP : Hid (IsO U (.slice ao a.c.l.length cap) a.c.l) := hide (by rw [← HCV.out]; exact HA.out.1.below HP.out.bel)
 have BW := hide (BE1.out.trans (belU.mono BE1.out.size))
 clear st1 st2 bel0 bel1 bel2 belU hX0 hX1 hX2 bU gU hU p0 p1 p2 f0 f1 f2 z0 z1 z2 SX HEN HNX hW0
 have G5 : Hid (¬ F w1.heap.size ∧ ¬ G w1.heap.size ∧ w0.heap.size ≤ w1.heap.size) := hide (by
  have h7 := SZ.out.1
  have h5 := HW0.out
  exact ⟨fun e => by have := HLF.out _ e; omega, fun e => by have := HLG.out _ e; omega, by omega⟩)
 generalize hcl : a.c.l = cl at *
 generalize hnn : (fi + 1) = nn at *
 generalize hne : (1 + pp) = ne at *
 generalize hg5 : w1.heap.size = g5 at *
 clear hcl hne hnn hg5
 have u0 : U.cell? ⟨g5, 0, none⟩ = some (.int .i64 ne) := blk_cell PU.out 0 rfl
 have u1 : U.cell? ⟨g5, 1, none⟩ = some (.int .i64 nn) := blk_cell PU.out 1 rfl
 have u2 : U.cell? ⟨g5, 2, none⟩ = some (.slice ao cl.length cap) := blk_cell PU.out 2 rfl
 have LN := hide (lentC_any ne nn (.slice ao cl.length cap) cl U IOP.out (by have := FT.out.2.1; omega))
 unfold cmv at LN
 go_wp2_with fail
 refine LN.out.mono ?_
 rintro E w7 ⟨v7, rfl, LV, bel7⟩
 obtain ⟨V, hV1, hV2, szV, belV, bV, y0, y1, y2⟩ := new_step w7 50 (.int .i64 0) (.int .i64 0) (.slice none 0 0) (.int .i64 ne) (.int .i64 nn) v7
 obtain ⟨g7, k7, hv7, hc7, hm7, own7⟩ := LV
 generalize hn : cl.length = n at *
 subst hv7
 have hn40 : n ≤ 40 := FT.out.2.1
 have sz7 := bel7.size
 have b7V := bel7.trans (belV.mono bel7.size)
 have hb7 : U.heap.size ≤ g7 ∧ g7 < w7.heap.size := OwnO.block own7 g7 rfl
 have LVV : Hid (LentV U.heap.size V (.slice (some ⟨g7, 0, none⟩) n k7) cl) := hide ⟨g7, k7, by rw [hn], by rw [hn]; exact hc7, hm7, by rw [hn]; exact own7.below belV⟩
 have PV := hide (HP.out.below b7V)
 have BV := hide ((b7V.block g5 (blk_lt PU.out)).trans PU.out)
 have IV := hide (IOP.out.below b7V)
 have CV := hide bV
 have BU := hide (show w.heap.size ≤ U.heap.size from BW.out.size)
 have VS := hide (show w7.heap.size ≤ V.heap.size from belV.size)
 have HG5 : Hid (g5 < U.heap.size) := hide (blk_lt PU.out)
 have AP : Hid (Calls Tryz.prog 50 #[.pointer (some ⟨ps, 0, none⟩), .agg #[.int .i64 ne, .int .i64 nn, .slice (some ⟨g7, 0, none⟩) n k7]] V fun E w' => E = .returned (.int .i64 (Sto.apl s ⟨ne, nn, cl⟩).1) ∧ ∃ F', TP w0 w' (Sto.apl s ⟨ne, nn, cl⟩).2 s ps p q xs x y F' G ∧ (∀ g, F' g → F g ∨ V.heap.size ≤ g) ∧ LentV U.heap.size w' (.slice (some ⟨g7, 0, none⟩) n k7) cl ∧ w'.heap[g5]? = some (.cells #[.int .i64 ne, .int .i64 nn, .slice ao n cap] 50 (0, 0)) ∧ w'.heap[w7.heap.size]? = some (.cells #[.int .i64 ne, .int .i64 nn, .slice (some ⟨g7, 0, none⟩) n k7] 50 (0, 0)) ∧ IsO w' (.slice ao n cap) cl) := hide (by
  have z1 := BU.out
  have hP := PV.out
  refine (hP.callS (sapply_any ps p q F V s ⟨ne, nn, .slice (some ⟨g7, 0, none⟩) n k7, cl⟩ hP.ss LVV.out.is FT.out.1 FT.out.2.2 (by show cl.length * 40 ≤ _; omega) (fun _ b hb hf => by
   have j1 : g7 = b := by simpa [Value.ownBlock] using hb
   have j2 := HLF.out b hf
   omega) (by omega))).mono ?_
  rintro E w' ⟨rfl, F', k1, o1, s1⟩
  refine ⟨rfl, F', k1, s1, ?_, (o1.block g5 (blk_lt BV.out) G5.out.1).trans BV.out, (o1.block w7.heap.size (blk_lt CV.out) (fun e => by have := HLF.out _ e; omega)).trans CV.out, IV.out.out o1 fun hl b hb => (NB.out (by omega) b hb).1⟩
  obtain ⟨g9, k9, e9, c9, m9, own9⟩ := LVV.out
  refine ⟨g9, k9, e9, c9, m9, row_agree own9 fun b hb => o1.block b (OwnO.block own9 b hb).2 fun e => ?_⟩
  have j1 := (OwnO.block own9 b hb).1
  have j2 := HLF.out b e
  omega)
 have APY : Hid (∀ W F', TP w0 W (Sto.apl s ⟨ne, nn, cl⟩).2 s ps p q xs x y F' G → IsO W (.slice ao n cap) cl → Calls Tryz.prog 51 #[.pointer (some ⟨xs, 0, none⟩), .agg #[.int .i64 ne, .int .i64 nn, .slice ao n cap]] W fun E w' => E = .returned (.int .i64 (Sto.apl s ⟨ne, nn, cl⟩).1) ∧ TD w0 ps p q xs x y k w') := hide fun W F' hP hI => by
  refine (hP.callY (dapply_any xs x y G W s ⟨ne, nn, .slice ao n cap, cl⟩ hP.yy hI FT.out.1 FT.out.2.2 (by show cl.length * 40 ≤ _; omega) (by omega))).mono ?_
  rintro E w' ⟨rfl, G', k1, o1, _⟩
  exact ⟨rfl, ⟨_, F', G', k1, sin_apl HIN.out _⟩⟩
 generalize hz : (Sto.apl s ⟨ne, nn, cl⟩).1 = z at *
 have hzz : (z == z) = true := by simp
 have HN := hide hn
 clear hz own7 bel7 LN u0 u1 u2 PU HP IOP hn belV bV b7V szV PV BV IV CV LVV
 go_wp2_with fail
 refine AP.out.mono ?_
 rintro E w8 ⟨rfl, F8, T8, N8, L8, B8, C8, I8⟩
 have K9 := hide (keptC_yes ne nn (.slice (some ⟨g7, 0, none⟩) n k7) (.slice ao n cap) cl U.heap.size w8 L8 I8 (by have := HN.out; omega))
 unfold cmv at K9
 have e0 := blk_cell C8 0 rfl
 have e1 := blk_cell C8 1 rfl
 have e2 := blk_cell C8 2 rfl
 have d0 := blk_cell B8 0 rfl
 have d1 := blk_cell B8 1 rfl
 have d2 := blk_cell B8 2 rfl
 simp only [List.getElem_toArray, List.getElem_cons_zero, List.getElem_cons_succ] at e0 e1 e2 d0 d1 d2
 have T8 := hide T8
 have L8 := hide L8
 have B8 := hide B8
 have C8 := hide C8
 have I8 := hide I8
 have N8 := hide N8
 clear AP
 go_wp2_with fail
 refine K9.out.mono ?_
 rintro E w9 ⟨rfl, bel9⟩
 have T9 := hide (show TP w0 w9 (Sto.apl s ⟨ne, nn, cl⟩).2 s ps p q xs x y F8 G ∧ OwnO 65 U.heap.size w9 (.slice (some ⟨g7, 0, none⟩) (n + 3) k7) (cl ++ [behind, behind, behind]) ∧ w9.heap[g5]? = some (.cells #[.int .i64 ne, .int .i64 nn, .slice ao n cap] 50 (0, 0)) ∧ w9.heap[w7.heap.size]? = some (.cells #[.int .i64 ne, .int .i64 nn, .slice (some ⟨g7, 0, none⟩) n k7] 50 (0, 0)) ∧ IsO w9 (.slice ao n cap) cl from by
  obtain ⟨g9, k9, h9, c9, m9, own9⟩ := L8.out
  rw [HN.out] at h9 own9
  simp only [Value.slice.injEq, Option.some.injEq, Addr.mk.injEq, and_true, true_and] at h9
  obtain ⟨rfl, rfl⟩ := h9
  exact ⟨T8.out.below bel9, own9.below bel9, (bel9.block g5 (blk_lt B8.out)).trans B8.out, (bel9.block w7.heap.size (blk_lt C8.out)).trans C8.out, I8.out.below bel9⟩)
 clear bel9 T8 L8 B8 C8 I8 K9 e0 e1 e2 d0 d1 d2
 go_wp2
 go_loopw [11] (fun iv wr => ∃ (i : Nat) (l' : List Bm.Ov), i ≤ n ∧ iv = .int .i64 i ∧ l'.length = n + 3 ∧ Hid (TP w0 wr (Sto.apl s ⟨ne, nn, cl⟩).2 s ps p q xs x y F8 G ∧ OwnO 65 U.heap.size wr (.slice (some ⟨g7, 0, none⟩) (n + 3) k7) l' ∧ wr.heap[g5]? = some (.cells #[.int .i64 ne, .int .i64 nn, .slice ao n cap] 50 (0, 0)) ∧ wr.heap[w7.heap.size]? = some (.cells #[.int .i64 ne, .int .i64 nn, .slice (some ⟨g7, 0, none⟩) n k7] 50 (0, 0)) ∧ IsO wr (.slice ao n cap) cl)) (fun iv _ => n - (intOf iv).toNat)
 case atStart => exact ⟨0, cl ++ [behind, behind, behind], by omega, rfl, by simp [HN.out], T9⟩
 case round =>
  obtain ⟨i, l', hi, rfl, hll, HT⟩ := hrel
  clear T9
  have e2 : wr.cell? ⟨w7.heap.size, 2, none⟩ = some (.slice (some ⟨g7, 0, none⟩) n k7) := blk_cell HT.out.2.2.2.1 2 rfl
  by_cases hlt : i < n
  ·obtain ⟨o, ho⟩ : ∃ o, l'[i]? = some o := ⟨l'[i]'(by omega), by rw [List.getElem?_eq_getElem]⟩
   obtain ⟨⟨m0, m1, m2⟩, ⟨f0, f1, f2⟩⟩ := own_atO HT.out.2.1 hll i o ho
   obtain ⟨W, hW, ownW, gW⟩ := own_putO HT.out.2.1 hll i (by omega) ⟨false, ⟨#[111, 118, 101, 114]⟩, ⟨#[]⟩⟩
   have oW : Out (fun g => g = g7) wr W := Out.of_grown gW fun g hg => by simp at hg; exact hg.symm
   have HT2 := hide (show TP w0 W (Sto.apl s ⟨ne, nn, cl⟩).2 s ps p q xs x y F8 G ∧ OwnO 65 U.heap.size W (.slice (some ⟨g7, 0, none⟩) (n + 3) k7) (l'.set i ⟨false, ⟨#[111, 118, 101, 114]⟩, ⟨#[]⟩⟩) ∧ W.heap[g5]? = some (.cells #[.int .i64 ne, .int .i64 nn, .slice ao n cap] 50 (0, 0)) ∧ W.heap[w7.heap.size]? = some (.cells #[.int .i64 ne, .int .i64 nn, .slice (some ⟨g7, 0, none⟩) n k7] 50 (0, 0)) ∧ IsO W (.slice ao n cap) cl from by
    have w00 := HW0.out
    have hbu := BU.out
    have hg5 := HG5.out
    refine ⟨HT.out.1.outside oW fun g e => ?_, ownW, (oW.block g5 (blk_lt HT.out.2.2.1) (by omega)).trans HT.out.2.2.1, (oW.block w7.heap.size (blk_lt HT.out.2.2.2.1) (by omega)).trans HT.out.2.2.2.1, HT.out.2.2.2.2.out oW fun hl b hb e => ?_⟩
    ·subst e
     refine ⟨fun e => ?_, fun e => ?_, by omega⟩
     ·rcases N8.out _ e with a | a
      ·have := HLF.out _ a
       omega
      ·have h1 := VS.out
       omega
     ·have := HLG.out _ e
      omega
    ·have := LB.out (by have := HN.out; omega) b hb
     omega)
   have hlt' : (i : Int) < n := by omega
   have hi0 : (0 : Int) ≤ (i : Int) := by omega
   clear ownW gW oW
   go_wp2
   go_roundw
   case rel => exact ⟨i + 1, _, by omega, by go_num, by rw [List.length_set]; exact hll, HT2⟩
   case measure => simp [intOf]; omega
  ·obtain rfl : i = n := by omega
   have hlt' : ¬ (i : Int) < i := by omega
   have z0 := blk_cell HT.out.2.2.1 0 rfl
   have z1 := blk_cell HT.out.2.2.1 1 rfl
   have z2 := blk_cell HT.out.2.2.1 2 rfl
   simp only [List.getElem_toArray, List.getElem_cons_zero, List.getElem_cons_succ] at z0 z1 z2
   have AY := hide (APY.out wr F8 HT.out.1 HT.out.2.2.2.2)
   clear HT APY
   go_wp2_with fail
   refine AY.out.mono ?_
   rintro E wz ⟨rfl, J⟩
   have J := hide J
   clear AY
   go_wp2
   go_ret
   exact ⟨rfl, J.out⟩

end Go.Proofs.YtmmfakpphjjjfaaGreat

/- What an argument that is a slice of ops comes in as. No program. -/
namespace Go.Proofs.YtmmfakpphjjjfaaGreat
open Go.RowKit Go.ChangeShapes Go.WideShapes Go.Deep
set_option linter.unusedVariables false

def opd {H : Type} (o : Bm.Ov) : DataW H := .agg [.lit (.bool o.p), .lit (.string o.k.data.toList), .lit (.string o.v.data.toList)]

theorem ocells_inv : ∀ (l : List Bm.Ov) (j : Nat) (u : Value), (ocells l)[j]? = some u → ∃ i o, l[i]? = some o ∧ ((j = i * 3 ∧ u = .bool o.p) ∨ (j = i * 3 + 1 ∧ u = .string o.k) ∨ (j = i * 3 + 2 ∧ u = .string o.v))
 | [], j, u, h => by simp [ocells] at h
 | o :: r, 0, u, h => ⟨0, o, rfl, .inl ⟨rfl, by simpa [ocells, ocell] using h.symm⟩⟩
 | o :: r, 1, u, h => ⟨0, o, rfl, .inr (.inl ⟨rfl, by simpa [ocells, ocell] using h.symm⟩)⟩
 | o :: r, 2, u, h => ⟨0, o, rfl, .inr (.inr ⟨rfl, by simpa [ocells, ocell] using h.symm⟩)⟩
 | o :: r, j + 3, u, h => by
  have h' : (ocells r)[j]? = some u := by simpa [ocells, ocell] using h
  obtain ⟨i, q, hq, hc⟩ := ocells_inv r j u h'
  refine ⟨i + 1, q, by simpa using hq, ?_⟩
  rcases hc with ⟨rfl, hu⟩ | ⟨rfl, hu⟩ | ⟨rfl, hu⟩
  ·exact .inl ⟨by omega, hu⟩
  ·exact .inr (.inl ⟨by omega, hu⟩)
  ·exact .inr (.inr ⟨by omega, hu⟩)

section
variable {H : Type} {enc : TypeId × Value → H} {P : Program} {w : World} {base : Nat} {spare : Nat → Bool} {held : Bool}

theorem open_ops {t e : TypeId} {f0 f1 f2 : Field} {fuel : Nat} {v : Value} {x : DataW H × List MemPlace} (ht : P.underlying t = some (.slice e)) (he : P.underlying e = some (.struct #[f0, f1, f2]))
  (hone : oneCellFields P #[f0, f1, f2] = true) (ce : P.cellsOf e = 3) (u0 : P.underlying f0.type = some .bool) (u1 : P.underlying f1.type = some .string) (u2 : P.underlying f2.type = some .string)
  (h : DataW.trod enc P w base spare held fuel t [v] = some x) : ∃ l : List Bm.Ov, IsO w v l ∧ ((x.1 = .nil ∧ l = []) ∨ ∃ sp, x.1 = .slice (l.map opd) sp) := by
 rcases open_slice ht h with ⟨hv, hx⟩ | ⟨a, len, cap, m, n, D, Pl, hv, hb, hl, hm, hmm, rfl, hx⟩
 ·simp at hv
  subst hv hx
  exact ⟨[], IsO.nil _, .inl ⟨rfl, rfl⟩⟩
 ·simp at hv
  subst hv
  have hlm : len ≤ m := by rw [hmm]; split <;> omega
  obtain ⟨o0, c0⟩ := hone_of hone 0 f0 rfl
  obtain ⟨o1, c1⟩ := hone_of hone 1 f1 rfl
  obtain ⟨o2, c2⟩ := hone_of hone 2 f2 rfl
  have each : ∀ i, i < len → ∃ o : Bm.Ov, w.cell? (a.add (i * 3)) = some (.bool o.p) ∧ w.cell? (a.add (i * 3 + 1)) = some (.string o.k) ∧ w.cell? (a.add (i * 3 + 2)) = some (.string o.v) ∧ D i = opd o := by
   intro i hi
   obtain ⟨cs', h1, h2⟩ := hx i (by omega)
   rw [ce] at h1
   obtain ⟨_, hlen, hcell⟩ := World.cells?_some h1
   obtain ⟨y0, y1, y2, k, hxy, _, g0, g1, g2⟩ := trod_struct3 he h2
   match cs', hlen with
   | [v0, v1, v2], _ =>
    simp [o0, o1, o2, c0, c1, c2] at g0 g1 g2
    obtain ⟨p, hp, rfl⟩ := DataW.trod_bool u0 g0
    obtain ⟨s, hs, rfl, _⟩ := DataW.trod_string u1 g1
    obtain ⟨r, hr, rfl, _⟩ := DataW.trod_string u2 g2
    simp at hp hs hr
    subst hp hs hr
    have e0 := hcell 0 (by omega)
    have e1 := hcell 1 (by omega)
    have e2 := hcell 2 (by omega)
    rw [Go.Deep.add_add] at e0 e1 e2
    simp only [Prod.mk.injEq] at hxy
    exact ⟨⟨p, s, r⟩, by simpa using e0, by simpa using e1, by simpa using e2, hxy.1⟩
  have : Inhabited Bm.Ov := ⟨⟨false, ⟨#[]⟩, ⟨#[]⟩⟩⟩
  obtain ⟨f, hf⟩ := choose_lt each
  refine ⟨(List.range len).map f, .inr ⟨a, cap, by simp, by simpa using hl, hm, fun j u hj => ?_⟩, .inr ⟨(List.range (m - len)).map fun j => D (len + j), ?_⟩⟩
  ·obtain ⟨i, o, ho, hc⟩ := ocells_inv _ j u hj
   obtain ⟨hi, e⟩ := List.getElem?_eq_some_iff.1 ho
   simp at hi e
   obtain ⟨k0, k1, k2, _⟩ := hf i hi
   subst e
   rcases hc with ⟨rfl, rfl⟩ | ⟨rfl, rfl⟩ | ⟨rfl, rfl⟩
   ·exact k0
   ·exact k1
   ·exact k2
  ·show DataW.slice _ _ = DataW.slice _ _
   congr 1
   rw [List.map_map]
   exact List.map_congr_left fun i hi => (hf i (by simpa using hi)).2.2.2

theorem weights_all {e : TypeId} {n : Nat} {d : DataW H} : ∀ {ds : List (DataW H)}, d ∈ ds → n ∈ d.weights P e → n ∈ DataW.weightsAll P e ds
 | [], h, _ => by simp at h
 | q :: r, h, hn => by
  simp only [DataW.weightsAll, List.mem_append]
  rcases List.mem_cons.1 h with rfl | h
  ·exact .inl hn
  ·exact .inr (weights_all h hn)

def OpsD (d : DataW H) (l : List Bm.Ov) : Prop := (d = .nil ∧ l = []) ∨ ∃ sp, d = .slice (l.map opd) sp

theorem ops_fit {t e : TypeId} {f0 f1 f2 : Field} {l : List Bm.Ov} {d : DataW H} (h : ∀ n ∈ d.weights P t, n ≤ reachBytes) (hd : OpsD d l) (hu : P.underlying t = some (.slice e)) (he : P.underlying e = some (.struct #[f0, f1, f2])) (hb : P.bytesOf e = 40) :
  FitO l ∧ l.length * 40 ≤ 140737488351232 := by
 rcases hd with ⟨_, rfl⟩ | ⟨sp, rfl⟩
 ·exact ⟨fun o ho => by simp at ho, by simp⟩
 refine ⟨fun o ho => ?_, ?_⟩
 ·have key : ∀ n ∈ (opd (H := H) o).weights P e, n ≤ 140737488351232 := by
   intro n hn
   exact h n (by
    simp only [DataW.weights, hu]
    exact List.mem_cons_of_mem _ (List.mem_append_left _ (weights_all (List.mem_map_of_mem ho) hn)))
  constructor
  ·have := key o.k.data.toList.length (by simp [opd, DataW.weights, he, DataW.weightsEach])
   rw [Lib.size_eq]; exact this
  ·have := key o.v.data.toList.length (by simp [opd, DataW.weights, he, DataW.weightsEach])
   rw [Lib.size_eq]; exact this
 ·have := h ((l.map (opd (H := H))).length + sp.length |> (· * P.bytesOf e)) (by simp [DataW.weights, hu])
  rw [hb] at this
  simp only [List.length_map, reachBytes] at this
  omega

end

end Go.Proofs.YtmmfakpphjjjfaaGreat
