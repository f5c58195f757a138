/- Texts of one layer, one behind the other. -/
import Derived.Test.YtmmfakpphjjjfaaGreatG11
import Derived.Test.YtmmfakpphjjjfaaGreatG13
import Derived.Test.YtmmfakpphjjjfaaGreatG15
import Derived.Test.YtmmfakpphjjjfaaGreatG16
import Derived.BigQuiet
import Derived.Test.YtmmfakpphjjjfaaGreatG2
import Derived.Test.YtmmfakpphjjjfaaGreatG5
import Derived.Test.YtmmfakpphjjjfaaGreatG9
import Derived.Maps.OwnSet
import Derived.Test.YtmmfakpphjjjfaaGreatG3
/- Of runs: a copy, the end, what follows, a frame, the disk's two steps, why nothing is taken. -/
namespace Go.Proofs.YtmmfakpphjjjfaaGreat
open Go.RowKit
set_option linter.unusedVariables false

theorem put_c2 {V : World} {R : Nat} {t : TypeId} {x y z : Value} (hR : V.heap[R]? = some (.cells #[x, y, z] t (0, 0))) (c : Value) :
  ∃ V', V.setCell ⟨R, 2, none⟩ c = V' ∧ V'.heap[R]? = some (.cells #[x, y, c] t (0, 0)) ∧ V.grownBy V' (some R) ∧ V.cell? ⟨R, 2, none⟩ = some z ∧ V.frozen? ⟨R, 2, none⟩ = false :=
 ⟨_, rfl, set_cells hR 2 c, grown_setCell V ⟨R, 2, none⟩ c, blk_cell hR 2 rfl, blk_froz hR 2⟩

set_option maxHeartbeats 400000 in
theorem hcopied_any (e n : Int) (v : Value) (l : List Bm.Ov) (w : World) (h : IsO w v l) (hl : l.length * 40 ≤ 140737488351232) :
  Calls Tryz.prog 124 #[cmv e n v] w fun E w' => ∃ v', E = .returned (cmv e n v') ∧ OwnO 65 w.heap.size w' v' l ∧ Below w.heap.size w w' := by
 unfold cmv
 obtain ⟨w1, hw1, sz1, bel1, hB⟩ := blk_step w #[.int .i64 e, .int .i64 n, v] 112
 obtain ⟨w2, hw2, sz2, bel2, hR⟩ := blk_step w1 #[.int .i64 0, .int .i64 0, .slice none 0 0] 112
 rw [sz1] at hR
 have hB2 := (bel2.block w.heap.size (by omega)).trans hB
 have bel02 : Below w.heap.size w w2 := bel1.trans (bel2.mono (by omega))
 have h2 := h.below bel02
 obtain ⟨ao, cap, rfl, _, _⟩ := h.shape
 have c2 := blk_cell hB2 2 rfl
 have HB := hide hB2
 have HR := hide hR
 clear hB hB2 hR bel1 bel2
 go_enter Tryz.func124, Tryz.ntmps124
 go_wp2_with fail
 refine (cloneO_any _ l _ h2 hl).mono ?_
 rintro E w3 ⟨v3, rfl, own3, bel3⟩
 have sz3 := bel3.size
 have hB3 := (bel3.block w.heap.size (by omega)).trans HB.out
 have hR3 := (bel3.block (w.heap.size + 1) (by omega)).trans HR.out
 have bel03 := bel02.trans (bel3.mono (by omega))
 obtain ⟨ah, ch, hvl, _, _⟩ := own3.is.shape
 subst hvl
 obtain ⟨X, hX, cX, gX, q2, q3⟩ := put_c2 hB3 (.slice ah l.length ch)
 have szX := gX.size
 have hRX := (gX.block (w.heap.size + 1) (by omega) (by simp)).trans hR3
 have ownX := own3.keptg gX (by omega)
 have bel0X := below_put bel03 gX (Nat.le_refl _) (by omega)
 have d0 := blk_cell cX 0 rfl
 have d1 := blk_cell cX 1 rfl
 have d2 := blk_cell cX 2 rfl
 obtain ⟨V', hV', bV', gV', ⟨a0, a1, a2⟩, ⟨f0, f1, f2⟩, ⟨z0, z1, z2⟩⟩ := res_step hRX (.int .i64 e) (.int .i64 n) (.slice ah l.length ch)
 have belV' := below_put bel0X gV' (by omega) (by omega)
 have ownV' := (ownX.keptg gV' (by omega)).rebase (base' := w.heap.size) (by omega)
 clear HB HR hB3 hR3 cX gX hRX bV' gV' own3 ownX bel03 bel0X bel3 c2
 go_wp2
 refine bodyPost_ret (v := .agg #[.int .i64 e, .int .i64 n, .slice ah l.length ch]) (by simp [results, Tryz.results124, go_sem, z0, z1, z2]) rfl ?_
 exact ⟨_, rfl, ownV', belV'⟩

theorem last_run {l : List Cm.Cv} {k : Nat} {c : Cm.Cv} (hk : l[k]? = some c) (hl : l.length = k + 1) (e : Int) : Cm.lastN e l = c.n := by
 rcases List.eq_nil_or_concat l with rfl | ⟨r, d, rfl⟩
 ·simp at hk
 ·rw [List.concat_eq_append] at hk hl ⊢
  rw [List.length_append, List.length_singleton] at hl
  obtain rfl : r.length = k := by omega
  rw [Rl.last_snoc r d e]
  simp at hk
  rw [hk]

theorem hend_any (v : Value) (rs : List Cw) (w : World) (h : RowC w v rs) (hl : rs.length ≤ 1048576) :
  Calls Tryz.prog 80 #[v] w fun E w' => E = .returned (.int .i64 (Cm.lastN 0 (cvs rs))) ∧ w = w' := by
 by_cases h0 : rs.length = 0
 ·have hr : rs = [] := List.eq_nil_of_length_eq_zero h0
  subst hr
  obtain ⟨ao, cap, rfl, _, _⟩ := h.shape
  clear h
  go_enter Tryz.func80, Tryz.ntmps80
  go_wp2
  go_ret
  exact ⟨rfl, rfl⟩
 ·obtain ⟨k, hk⟩ : ∃ k, rs.length = k + 1 := ⟨rs.length - 1, by omega⟩
  obtain ⟨g, off, cap, rfl, _, _, _, hcell⟩ := h.full (by omega)
  obtain ⟨c, hck⟩ : ∃ c, rs[k]? = some c := ⟨rs[k]'(by omega), by rw [List.getElem?_eq_getElem]⟩
  obtain ⟨_, c1, _⟩ := hcell k c hck
  have hL : Cm.lastN 0 (cvs rs) = c.n := last_run (k := k) (c := c.c) (by unfold cvs; rw [List.getElem?_map, hck]; rfl) (by unfold cvs; rw [List.length_map]; exact hk) 0
  rw [hL, hk]
  have hne : (((k + 1 : Nat) : Int) == 0) = false := by simp; omega
  have hw : IntKind.i64.wrap (((k + 1 : Nat) : Int) - 1) = (k : Int) := by rw [wrap_i64_small _ (by omega) (by omega)]; omega
  have hk1 : (k : Int) < ((k + 1 : Nat) : Int) := by omega
  clear h hcell hck hL
  go_enter Tryz.func80, Tryz.ntmps80
  go_wp2
  go_ret
  exact ⟨rfl, rfl⟩

set_option maxHeartbeats 400000 in
theorem hfollows_any (v : Value) (rs : List Cw) (e n : Int) (vo : Value) (w : World) (h : RowC w v rs) (hl : rs.length ≤ 1048576) (ho : ∃ a m k, vo = .slice a m k) (hn : 0 ≤ Cm.lastN 0 (cvs rs) ∧ Cm.lastN 0 (cvs rs) ≤ 1048576) :
  Calls Tryz.prog 68 #[v, cmv e n vo] w fun E w' => E = .returned (.bool (decide (e - 1 = Cm.lastN 0 (cvs rs)))) ∧ Below w.heap.size w w' := by
 unfold cmv
 obtain ⟨w1, hw1, sz1, bel1, hB⟩ := blk_step w #[.int .i64 e, .int .i64 n, vo] 112
 have c0 := blk_cell hB 0 rfl
 have HE : Hid (∀ m, Calls Tryz.prog 80 #[v] (w1.drewN m) fun E w' => E = .returned (.int .i64 (Cm.lastN 0 (cvs rs))) ∧ ∃ q, w' = (w1.drewN m).drewN q) := hide fun m =>
  (hend_any v rs (w1.drewN m) ((h.below bel1).below (below_drewN (Below.refl _ _) m)) hl).mono fun E w' h => ⟨h.1, 0, by rw [← h.2]; rfl⟩
 obtain ⟨ao, cap, hv, _, _⟩ := h.shape
 obtain ⟨a, m, k, rfl⟩ := ho
 generalize Cm.lastN 0 (cvs rs) = z at *
 have hw : IntKind.i64.wrap (z + 1) = z + 1 := wrap_i64_small _ (by omega) (by omega)
 have hd : decide (e - 1 = z) = (e == z + 1) := by
  by_cases h : e - 1 = z
  ·rw [decide_eq_true h]; simp; omega
  ·rw [decide_eq_false h]; simp; omega
 rw [hd]
 clear h hB hd
 subst hv
 go_enter Tryz.func68, Tryz.ntmps68
 go_wp2_with fail
 go_quiet ((go_at_call 80; refine Calls.quiet_of (HE.out _)))
 go_wp2
 go_ret
 exact ⟨rfl, below_drewN bel1 _⟩

theorem hmade_any (p q : Nat) (w : World) (u1 u2 : Value) (hB : w.heap[p]? = some (.cells #[.pointer (some ⟨q, 0, none⟩), u1, u2] 81 (0, 0))) :
  Calls Tryz.prog 79 #[.pointer (some ⟨p, 0, none⟩)] w fun E w' => E = .returned (.bool true) ∧ w = w' := by
 have c0 := blk_cell hB 0 rfl
 clear hB
 go_enter Tryz.func79, Tryz.ntmps79
 go_wp2
 go_ret
 exact ⟨rfl, rfl⟩

def frdR (e n : Int) (l : List Bm.Ov) : List Int := if Rn.chk e n l = 0 then Rl.fr ⟨e, n, l⟩ else []

set_option maxRecDepth 20000 in
set_option maxHeartbeats 1000000 in
theorem hframed_any (e n : Int) (v : Value) (l : List Bm.Ov) (w : World) (h : IsO w v l) (hf : FitO l) (hl : l.length ≤ 140737488355328) :
  Calls Tryz.prog 122 #[cmv e n v] w fun E w' => ∃ vb, E = .returned (.tuple #[vb, .int .i64 (Rn.chk e n l)]) ∧ Own .u8 5 w.heap.size w' vb (frdR e n l) ∧ Below w.heap.size w w' := by
 obtain ⟨ao, cap, hv, _, _⟩ := h.shape
 obtain ⟨w1, hw1, sz1, bel1, hB⟩ := blk_step w #[.int .i64 e, .int .i64 n, v] 112
 have c0 : w1.cell? ⟨w.heap.size, 0, none⟩ = some (.int .i64 e) := blk_cell hB 0 rfl
 have c1 : w1.cell? ⟨w.heap.size, 1, none⟩ = some (.int .i64 n) := blk_cell hB 1 rfl
 have c2 : w1.cell? ⟨w.heap.size, 2, none⟩ = some v := blk_cell hB 2 rfl
 have HC := hide (henc_any e n v l w1 (h.below bel1) hf hl)
 unfold cmv at HC ⊢
 rw [hv] at hw1 c2 HC ⊢
 obtain ⟨ch, hch⟩ : ∃ c, Rn.chk e n l = c := ⟨_, rfl⟩
 have KC := hide hch
 rw [hch] at HC ⊢
 clear h hf hl hB hv hch
 go_enter Tryz.func122, Tryz.ntmps122
 go_wp2_with fail
 refine HC.out.mono ?_
 rintro E w2 ⟨vb, rfl, own, bel2⟩
 have bel02 := bel1.trans (bel2.mono bel1.size)
 obtain ⟨ab, cb, hvb, _, _⟩ := own.is.shape
 by_cases hc0 : ch = 0
 ·have hz : (Rn.out e n l).length ≤ 52233 := Rn.out_small e n l
  have HF := hide (fapp_any (.slice none 0 0) vb [] (Rn.out e n l) w2 (Is.nil _ _) own.is (by simp) (by omega))
  have ea : ape (Rn.out e n l) = 0 := by unfold ape; rw [if_pos (by omega)]
  have ed : apd [] (Rn.out e n l) = frdR e n l := by
   unfold apd frdR
   rw [if_pos (by omega), if_pos (by rw [KC.out]; exact hc0), Rn.out_ok (by rw [KC.out]; exact hc0)]
   rfl
  rw [ea, ed] at HF
  subst hvb
  subst hc0
  clear own bel1 bel2 ea ed hz HC
  go_wp2_with fail
  refine HF.out.mono ?_
  rintro E w3 ⟨vf, rfl, own3, bel3⟩
  obtain ⟨af, cf, hvf, _, _⟩ := own3.is.shape
  have O3 := hide (own3.rebase (base' := w.heap.size) bel02.size)
  have B3 := hide (bel02.trans (bel3.mono bel02.size))
  subst hvf
  clear own3 bel3 bel02 HF
  go_wp2
  go_ret2
  exact ⟨_, rfl, O3.out, B3.out⟩
 ·have ed : frdR e n l = [] := by unfold frdR; rw [if_neg (by rw [KC.out]; exact hc0)]
  have ED := hide ed
  have hne : (ch != 0) = true := by simp [hc0]
  subst hvb
  clear own bel1 bel2 ed HC
  go_wp2
  go_ret2
  exact ⟨_, rfl, by rw [ED.out]; exact Own.nil _ _ _ _, bel02⟩

set_option maxHeartbeats 400000 in
theorem htrim_any (q : Nat) (F : Nat → Prop) (w : World) (st : Dm.Ds) (len : Int) (h : Pk q F w st) (hs : Big 100000000 800000 st) :
  Calls Tryz.prog 31 #[.pointer (some ⟨q, 0, none⟩), .int .i64 len] w fun E w' => E = .returned (.int .i64 (if (Dm.cutD st 2 len).1 ≠ 0 then (Dm.cutD st 2 len).1 else (Dm.sync (Dm.cutD st 2 len).2).1)) ∧ PStep q F w w' (if (Dm.cutD st 2 len).1 ≠ 0 then (Dm.cutD st 2 len).2 else (Dm.sync (Dm.cutD st 2 len).2).2) := by
 have HC := hide (cut_any q F w st 2 len h (fun f => Nat.le_trans (hs.1.1 f) (by decide)) (Nat.le_trans hs.1.2.1 (by decide)) hs.2 (Nat.lt_of_le_of_lt hs.1.2.2 (by decide)))
 have hs2 := big_cut hs 2 len
 have HS : Hid (∀ W G, Pk q G W (Dm.cutD st 2 len).2 → Calls Tryz.prog 70 #[.pointer (some ⟨q, 0, none⟩)] W fun E w' => E = .returned (.int .i64 (Dm.sync (Dm.cutD st 2 len).2).1) ∧ PStep q G W w' (Dm.sync (Dm.cutD st 2 len).2).2) := hide fun W G hk => sync_any q G W _ hk (fun f => Nat.le_trans (hs2.1.1 f) (by decide)) (Nat.le_trans hs2.1.2.1 (by decide)) hs2.2 (Nat.lt_of_le_of_lt hs2.1.2.2 (by decide))
 generalize Dm.cutD st 2 len = x at *
 obtain ⟨e, st2⟩ := x
 simp only at *
 generalize Dm.sync st2 = y at *
 obtain ⟨f, st3⟩ := y
 simp only at *
 clear h hs hs2
 by_cases he : e = 0
 ·subst he
  simp only [ne_eq, not_true, if_false]
  go_enter Tryz.func31, Tryz.ntmps31
  go_wp2_with fail
  refine HC.out.mono ?_
  rintro E w1 ⟨rfl, F1, k1, k2, k3⟩
  have HS1 := hide (HS.out w1 F1 k1)
  have K2 := hide k2
  have K3 := hide k3
  clear k1 k2 k3 HC HS
  go_wp2_with fail
  refine HS1.out.mono ?_
  rintro E w2 ⟨rfl, J⟩
  have J := hide (PStep.trans K2.out K3.out J)
  go_wp2
  go_ret
  exact ⟨rfl, J.out⟩
 ·simp only [ne_eq, he, not_false_eq_true, if_true]
  have hne : (e != 0) = true := by simp [he]
  go_enter Tryz.func31, Tryz.ntmps31
  go_wp2_with fail
  refine HC.out.mono ?_
  rintro E w1 ⟨rfl, J⟩
  have J := hide J
  clear HC HS
  go_wp2
  go_ret
  exact ⟨rfl, J.out⟩

theorem RkV.put {p q : Nat} {w : World} {l : List Cm.Cv} {bk : Bool} {v : Value} {rs : List Cw} (h : RkV p q w l bk v rs) (b : Bool) : RkV p q (w.setCell ⟨p, 1, none⟩ (.bool b)) l b v rs ∧ Out (fun g => g = p) w (w.setCell ⟨p, 1, none⟩ (.bool b)) := by
 have ho : Out (fun g => g = p) w (w.setCell ⟨p, 1, none⟩ (.bool b)) := Out.of_grown (grown_setCell w ⟨p, 1, none⟩ (.bool b)) fun g hg => by simp at hg; exact hg.symm
 refine ⟨⟨by rw [set_cells h.blk]; rfl, h.log.agree fun g hg => ho.block g (h.log.lt g hg) fun e => ?_⟩, ho⟩
 exact h.log.ne h.blk (by decide) (by decide) (e ▸ hg)

theorem RW.flag {p q : Nat} {F : Nat → Prop} {w : World} {s : Rl.Rs} (h : RW p q F w s) (b : Bool) : RStep p q F w (w.setCell ⟨p, 1, none⟩ (.bool b)) ⟨s.d, s.l, b⟩ := by
 obtain ⟨F1, G1, h1, h2, rfl⟩ := h
 obtain ⟨v, rs, hv, rfl⟩ := h2
 obtain ⟨k1, k2⟩ := hv.put b
 have h2 : Rk p q (fun g => g = p ∨ QB v rs g) w s.l s.bk := ⟨v, rs, hv, rfl⟩
 refine ⟨_, ⟨F1, _, h1.out k2 fun g hg e => rk_pk h2 h1 g (.inl e) hg, ⟨v, rs, k1, rfl⟩, rfl⟩, k2.mono fun g hg => .inl (.inr (.inl hg)), fun g hg => .inl hg⟩

set_option maxHeartbeats 1000000 in
theorem hrefuses_any (p q : Nat) (F : Nat → Prop) (w : World) (s : Rl.Rs) (h : RW p q F w s) :
  Calls Tryz.prog 121 #[.pointer (some ⟨p, 0, none⟩)] w fun E w' => (Rl.ask s = true ∧ E = .returned (.int .i64 6) ∧ RStep p q F w w' (Rl.brk s)) ∨ (Rl.ask s = false ∧ E = .returned (.int .i64 0) ∧ w = w') := by
 have HF := hide (h.flag true)
 obtain ⟨F1, G1, h1, h2, rfl⟩ := h
 obtain ⟨v, rs, hv, rfl⟩ := h2
 have HM := hide (hmade_any p q w _ _ hv.blk)
 have HO := hide (on_any q F1 w s.d h1)
 have c0 := blk_cell hv.blk 0 rfl
 have c1 := blk_cell hv.blk 1 rfl
 have f1 := blk_froz hv.blk 1
 simp only [List.getElem_toArray, List.getElem_cons_zero, List.getElem_cons_succ] at c0 c1
 unfold Rl.ask
 generalize s.d.on = on at HO ⊢
 generalize s.bk = bk at c1 ⊢
 clear hv h1
 cases bk <;> cases on
 ·go_enter Tryz.func121, Tryz.ntmps121
  go_wp2_with fail
  refine HM.out.mono ?_
  rintro E w1 ⟨rfl, rfl⟩
  go_wp2_with fail
  refine HO.out.mono ?_
  rintro E w1 ⟨rfl, rfl⟩
  go_wp2
  go_ret
  exact .inl ⟨rfl, rfl, HF.out⟩
 ·go_enter Tryz.func121, Tryz.ntmps121
  go_wp2_with fail
  refine HM.out.mono ?_
  rintro E w1 ⟨rfl, rfl⟩
  go_wp2_with fail
  refine HO.out.mono ?_
  rintro E w1 ⟨rfl, rfl⟩
  go_wp2
  go_ret
  exact .inr ⟨rfl, rfl, rfl⟩
 ·go_enter Tryz.func121, Tryz.ntmps121
  go_wp2_with fail
  refine HM.out.mono ?_
  rintro E w1 ⟨rfl, rfl⟩
  go_wp2
  go_ret
  exact .inl ⟨rfl, rfl, HF.out⟩
 ·go_enter Tryz.func121, Tryz.ntmps121
  go_wp2_with fail
  refine HM.out.mono ?_
  rintro E w1 ⟨rfl, rfl⟩
  go_wp2
  go_ret
  exact .inl ⟨rfl, rfl, HF.out⟩

theorem hrend_any (p q : Nat) (F : Nat → Prop) (w : World) (s : Rl.Rs) (h : RW p q F w s) :
  Calls Tryz.prog 40 #[.pointer (some ⟨p, 0, none⟩)] w fun E w' => E = .returned (.int .i64 (Cm.lastN 0 s.l)) ∧ w = w' := by
 obtain ⟨F1, G1, h1, h2, rfl⟩ := h
 obtain ⟨v, rs, hv, rfl⟩ := h2
 have HM := hide (hmade_any p q w _ _ hv.blk)
 have HE := hide (hend_any v rs w hv.log.row.row hv.log.len_le)
 rw [hv.log.is] at HE
 have c2 := blk_cell hv.blk 2 rfl
 simp only [List.getElem_toArray, List.getElem_cons_zero, List.getElem_cons_succ] at c2
 clear hv h1
 go_enter Tryz.func40, Tryz.ntmps40
 go_wp2_with fail
 refine HM.out.mono ?_
 rintro E w1 ⟨rfl, rfl⟩
 go_wp2_with fail
 refine HE.out.mono ?_
 rintro E w1 ⟨rfl, rfl⟩
 go_wp2
 go_ret
 exact ⟨rfl, rfl⟩

end Go.Proofs.YtmmfakpphjjjfaaGreat

/- The program's table in memory: New, isMade, Get, Len. -/
namespace Go.Proofs.YtmmfakpphjjjfaaGreat
open Go.RowKit Go.Maps
open Bm (Ov)
set_option linter.unusedVariables false

theorem Tryz.keyed : Keyed Tryz.prog 9 := string_keyed Tryz.underlying9

def Ren : Value → Option (DataW Unit × List MemPlace)
 | .agg cs => match cs.toList with
  | [.string s, .bool b] => some (.agg [.lit (.string s.data.toList), .lit (.bool b)], [])
  | _ => none
 | _ => none

def env (v : ByteArray) (p : Bool) : Value := .agg #[.string v, .bool p]

theorem ren_mk (o : Ov) : Ren (env o.v o.p) = some (Tm.el o, []) := rfl

theorem ren_inv {v : Value} {y : DataW Unit × List MemPlace} (h : Ren v = some y) : ∃ (s : ByteArray) (b : Bool), v = env s b ∧ y = (.agg [.lit (.string s.data.toList), .lit (.bool b)], []) := by
 unfold Ren at h
 split at h
 ·rename_i cs
  split at h
  ·rename_i s b hcs
   refine ⟨s, b, ?_, by simpa using h.symm⟩
   obtain ⟨l⟩ := cs
   simp at hcs
   subst hcs
   rfl
  ·simp at h
 ·simp at h

theorem ren_el {v : Value} {o : Ov} {ps : List MemPlace} (h : Ren v = some (Tm.el o, ps)) : v = env o.v o.p := by
 obtain ⟨s, b, rfl, e⟩ := ren_inv h
 simp only [Tm.el, Ov.vl, Prod.mk.injEq, DataW.agg.injEq, List.cons.injEq, DataW.lit.injEq, Lit.string.injEq, Lit.bool.injEq, and_true] at e
 obtain ⟨⟨e1, e2⟩, _⟩ := e
 rw [Bm.ba_eq e1, e2]

theorem ren_zero {v : Value} {ps : List MemPlace} (h : Ren v = some (.agg [.lit (.string []), .lit (.bool false)], ps)) : v = env ⟨#[]⟩ false := ren_el (o := ⟨false, ⟨#[]⟩, ⟨#[]⟩⟩) h

theorem Tryz.zeroE (w : World) : (zeroValue 160).run Tryz.prog w = .ok (env ⟨#[]⟩ false) w := by kernel_rfl

theorem World.ownsMap.tight {P : Program} {k : TypeId} {R : Value → Option (DataW Unit × List MemPlace)} {w : World} {b n : Nat} {D : DataW Unit} (h : w.ownsMap P k R b n D) : w.ownsMap P k R b (Maps.size D) D := by
 obtain ⟨es, clock, hb, F, hs, rfl⟩ := h
 exact ⟨es, clock, hb, F, by simp [Maps.size, length_sorted], rfl⟩

structure Tb (p b : Nat) (w : World) (t : List Ov) : Prop where
 blk : w.heap[p]? = some (.cells #[.map (some b)] 126 (0, 0))
 own : w.ownsMap Tryz.prog 9 Ren b t.length (Tm.dat t)
 up : Tm.Up t

theorem Tb.plt {p b : Nat} {w : World} {t : List Ov} (h : Tb p b w t) : p < w.heap.size := blk_lt h.blk
theorem Tb.blt {p b : Nat} {w : World} {t : List Ov} (h : Tb p b w t) : b < w.heap.size := h.own.lt

theorem Tb.agree {p b : Nat} {w w' : World} {t : List Ov} (h : Tb p b w t) (h1 : w'.heap[p]? = w.heap[p]?) (h2 : w'.heap[b]? = w.heap[b]?) : Tb p b w' t := by
 refine ⟨h1.trans h.blk, ?_, h.up⟩
 obtain ⟨es, clock, hb, r⟩ := h.own
 exact ⟨es, clock, h2.trans hb, r⟩

theorem Tb.below {p b : Nat} {w w' : World} {t : List Ov} (h : Tb p b w t) (hb : Below w.heap.size w w') : Tb p b w' t := h.agree (hb.block p h.plt) (hb.block b h.blt)

theorem Tb.cell {p b : Nat} {w : World} {t : List Ov} (h : Tb p b w t) : w.cell? ⟨p, 0, none⟩ = some (.map (some b)) := blk_cell h.blk 0 rfl

theorem Tb.ne {p b : Nat} {w : World} {t : List Ov} (h : Tb p b w t) : p ≠ b := fun e => by
 obtain ⟨es, clock, hb, _⟩ := h.own
 have := h.blk
 rw [e, hb] at this
 cases this

theorem Tb.row {p b : Nat} {w : World} {t : List Ov} (h : Tb p b w t) {g j : Nat} {u : Value} (hc : w.cell? ⟨g, j, none⟩ = some u) : g ≠ b := fun e => by
 obtain ⟨es, clock, hb, _⟩ := h.own
 subst e
 simp [World.cell?, hb] at hc

theorem equalIn_map (w : World) (d : Nat) (m : Option Nat) : (Op.equalIn (d + 1) 124 (.map m) (.map none)).run Tryz.prog w = .ok m.isNone w := by
 have h := Tryz.underlying124
 cases m <;> simp [Op.equalIn, run_underlying h]

theorem Tryz.neqnilM (w : World) (m : Option Nat) : (binOp .neq 124 (.map m) (.map none)).run Tryz.prog w = .ok (.bool (!m.isNone)) w := by
 simp only [binOp]
 simp [Op.equal, Op.maxDepth, equalIn_map w 9999 m]

set_option maxRecDepth 100000 in
theorem tmade_any (p b : Nat) (w : World) (hc : w.cell? ⟨p, 0, none⟩ = some (.map (some b))) :
  Calls Tryz.prog 127 #[.pointer (some ⟨p, 0, none⟩)] w fun E w' => E = .returned (.bool true) ∧ w = w' := by
 have hn := Tryz.neqnilM w (some b)
 go_enter Tryz.func127, Tryz.ntmps127
 go_wp2
 go_ret
 exact ⟨rfl, rfl⟩

theorem tnew_any (w : World) : Calls Tryz.prog 41 #[] w fun E w' => E = .returned (.pointer (some ⟨w.heap.size + 1, 0, none⟩)) ∧ Tb (w.heap.size + 1) w.heap.size w' [] ∧ Below w.heap.size w w' := by
 obtain ⟨w1, hw1⟩ : ∃ w1, w.alloc (.map #[] 0) = w1 := ⟨_, rfl⟩
 have hm1 : w1.ownsMap Tryz.prog 9 Ren w.heap.size 0 (.map []) := by rw [← hw1]; exact World.ownsMap_made _ _ _ _
 have sz1 : w1.heap.size = w.heap.size + 1 := by rw [← hw1]; simp
 have b1 : Below w.heap.size w w1 := by rw [← hw1]; exact (Below.refl _ _).alloc (Nat.le_refl _) _
 obtain ⟨w2, hw2, sz2, b2, B2⟩ := blk_step w1 #[.map (some w.heap.size)] 126
 rw [sz1] at B2 b2
 have H : Hid (Tb (w.heap.size + 1) w.heap.size w2 [] ∧ Below w.heap.size w w2) := hide ⟨⟨B2, by
  obtain ⟨es, clock, hb, r⟩ := hm1
  exact ⟨es, clock, (b2.block _ (by omega)).trans hb, r⟩, List.Pairwise.nil⟩, b1.trans (b2.mono (by omega))⟩
 have hmm := @run_makeMap Tryz.prog
 clear hm1 b1 b2 B2
 go_enter Tryz.func41, Tryz.ntmps41
 go_wp2
 go_ret
 exact ⟨rfl, H.out⟩

def gv (t : List Ov) (k : ByteArray) : ByteArray := match Tm.get t k with | some o => o.v | none => ⟨#[]⟩
def gp (t : List Ov) (k : ByteArray) : Bool := match Tm.get t k with | some o => o.p | none => false

theorem look_tb {p b : Nat} {w : World} {t : List Ov} (h : Tb p b w t) (k : ByteArray) (hk : k.size ≤ maxLen) (c : Bool) :
  (Instr.lookup 124 (.map (some b)) (.string k) c).run Tryz.prog w = .ok (if c then .tuple #[env (gv t k) (gp t k), .bool (Tm.met t k)] else env (gv t k) (gp t k)) w := by
 have hkey : keyOf Tryz.prog 9 (.string k) = some (.string k.data.toList) := WideMaps.keyOf_string_mk Tryz.underlying9 hk
 have hsh : ∀ (v : Value) (ps : List MemPlace), Ren v = some ((Tm.dat t).atKey (.string k.data.toList) (.agg [.lit (.string []), .lit (.bool false)]), ps) → v = env (gv t k) (gp t k) := fun v ps hv => by
  rw [Tm.dat_at] at hv
  unfold gv gp
  cases e : Tm.get t k with
  | none => rw [e] at hv; exact ren_zero hv
  | some o => rw [e] at hv; exact ren_el hv
 cases c
 ·obtain ⟨v, ps, hrun, hv⟩ := h.own.lookup Tryz.keyed Tryz.underlying124 (Tryz.zeroE w) (zd := .agg [.lit (.string []), .lit (.bool false)]) (zp := []) rfl hkey
  rw [hrun, hsh v ps hv]
  rfl
 ·obtain ⟨v, ps, hrun, hv⟩ := h.own.look_ok Tryz.keyed Tryz.underlying124 (Tryz.zeroE w) (zd := .agg [.lit (.string []), .lit (.bool false)]) (zp := []) rfl hkey
  rw [hrun, hsh v ps hv, Tm.dat_has, Tm.met_get]
  rfl

theorem tget_any (p b : Nat) (w : World) (t : List Ov) (k : ByteArray) (h : Tb p b w t) (hk : k.size ≤ 140737488355328) :
  Calls Tryz.prog 105 #[.pointer (some ⟨p, 0, none⟩), .string k] w fun E w' => E = .returned (.tuple #[.string (gv t k), .bool (Tm.met t k), .bool (gp t k)]) ∧ Below w.heap.size w w' := by
 have hc := h.cell
 have hl := look_tb h k (by unfold maxLen; omega) true
 simp only [if_true] at hl
 have HM := hide (tmade_any p b w hc)
 obtain ⟨w1, hw1, sz1, b1, B1⟩ := blk_step w #[.string (gv t k), .bool (gp t k)] 160
 have c0 := blk_cell B1 0 rfl
 have c1 := blk_cell B1 1 rfl
 unfold env at hl
 clear h B1
 go_enter Tryz.func105, Tryz.ntmps105
 go_wp2_with fail
 refine HM.out.mono ?_
 rintro E w' ⟨rfl, rfl⟩
 go_wp2
 go_quiet (fail)
 go_wp2
 go_ret3
 exact ⟨rfl, b1.trans (below_drewN (Below.refl _ _) _)⟩

end Go.Proofs.YtmmfakpphjjjfaaGreat

/- The program's table: Apply. -/
namespace Go.Proofs.YtmmfakpphjjjfaaGreat
open Go.RowKit Go.Maps
open Bm (Ov)
set_option linter.unusedVariables false
attribute [local go_sem] Oper.semAt_some

def ovv (o : Ov) : Value := .agg #[.bool o.p, .string o.k, .string o.v]

def Tm.aft (t l : List Ov) : List Ov := if Bm.first l = 0 then Tm.app t l else t

theorem cell_of_blk' {W W' : World} {B : Nat} (h : W'.heap[B]? = W.heap[B]?) (j : Nat) : W'.cell? ⟨B, j, none⟩ = W.cell? ⟨B, j, none⟩ := World.cell?_of_block (show W'.heap[(⟨B, j, none⟩ : Addr).block]? = W.heap[(⟨B, j, none⟩ : Addr).block]? from h)

theorem tb_put {p b : Nat} {w : World} {t : List Ov} (o : Ov) (h : Tb p b w t) (hk : o.k.size ≤ 140737488355328) (hn : t.length < 140737488355328) :
  ∃ w', (Instr.mapUpdate 124 (.map (some b)) (.string o.k) (.agg #[.string o.v, .bool o.p])).run Tryz.prog w = .ok () w' ∧ Tb p b w' (Tm.one t o) ∧ w.grownBy w' (some b) := by
 have hkey : keyOf Tryz.prog 9 (.string o.k) = some (.string o.kl) := WideMaps.keyOf_string_mk Tryz.underlying9 (by unfold maxLen; omega)
 obtain ⟨w', h1, h2, h3⟩ := h.own.update Tryz.keyed Tryz.underlying124 (by unfold maxLen; omega) hkey (ren_mk o)
 refine ⟨w', h1, ⟨(h3.block p h.plt fun e => h.ne (Option.some.inj e)).trans h.blk, ?_, Tm.up_one o h.up⟩, h3⟩
 rw [Tm.dat_put o h.up] at h2
 have := World.ownsMap.tight h2
 rwa [Tm.dat_size] at this

set_option maxHeartbeats 1000000 in
theorem tapply_any (p b : Nat) (w : World) (t : List Ov) (v : Value) (l : List Ov) (h : Tb p b w t) (hl : IsO w v l) (hf : FitO l) (hn : t.length + l.length ≤ 1000000) :
  Calls Tryz.prog 82 #[.pointer (some ⟨p, 0, none⟩), v] w fun E w' => E = .returned (.int .i64 (Bm.first l)) ∧ Tb p b w' (Tm.aft t l) ∧ Out (fun g => g = b) w w' := by
 have HM := hide (tmade_any p b w h.cell)
 obtain ⟨ao, cap, hsv, hcap, hcm⟩ := hl.shape
 have HFULL := hide fun (h0 : 0 < l.length) => hl.full h0
 subst hsv
 have HF := hide hf
 have HT0 := hide h
 obtain ⟨n, hnn⟩ : ∃ n, l.length = n := ⟨_, rfl⟩
 rw [hnn] at HFULL hcap hn ⊢
 have HN := hide hnn
 have hc := h.cell
 have hplt := h.plt
 clear hl hf h hnn
 go_enter Tryz.func82, Tryz.ntmps82
 go_wp2_with fail
 refine HM.out.mono ?_
 rintro E w' ⟨rfl, rfl⟩
 go_wp2
 go_loopw [15] (fun i wr => ∃ (k : Nat), k ≤ n ∧ i = .int .i64 k ∧ Hid (∀ q ∈ l.take k, q.c = 0) ∧ Below w.heap.size w wr) (fun i _ => n - (intOf i).toNat)
 case atStart => exact ⟨0, by omega, rfl, hide (by simp), Below.refl _ _⟩
 case round =>
  obtain ⟨k, hk, rfl, HT, bel⟩ := hrel
  obtain ⟨wa, rfl⟩ : ∃ x, x = wr := ⟨wr, rfl⟩
  have sz := bel.size
  by_cases hlt : k < n
  ·obtain ⟨o, ho⟩ : ∃ o, l[k]? = some o := ⟨l[k]'(by have := HN.out; omega), by rw [List.getElem?_eq_getElem]⟩
   obtain ⟨b1, o1, cq, hvx, _, _, hB, hcell⟩ := HFULL.out (by omega)
   simp only [Value.slice.injEq, true_and] at hvx
   obtain ⟨rfl, rfl⟩ := hvx
   obtain ⟨c0, c1, c2⟩ := hcell k o ho
   have d0 := (bel.cell (p := ⟨b1, o1 + k * 3, none⟩) hB).trans c0
   have d1 := (bel.cell (p := ⟨b1, o1 + k * 3 + 1, none⟩) hB).trans c1
   have d2 := (bel.cell (p := ⟨b1, o1 + k * 3 + 2, none⟩) hB).trans c2
   have HO := hide ho
   clear c0 c1 c2 ho hcell
   have hlt' : (k : Int) < n := by omega
   obtain ⟨hk1, hv1⟩ := HF.out o (List.mem_of_getElem? HO.out)
   obtain ⟨W1, hW1, sz1, bW1, B1⟩ := blk_step wa #[.bool o.p, .string o.k, .string o.v] 65
   have e0 := blk_cell B1 0 rfl
   have e1 := blk_cell B1 1 rfl
   have e2 := blk_cell B1 2 rfl
   have b01 : Below w.heap.size w W1 := bel.trans (bW1.mono sz)
   clear B1 bW1
   go_wp2_with fail
   refine (check_any o.p o.k o.v _ hk1 hv1).mono ?_
   rintro E w1 ⟨rfl, bel1⟩
   have bel2 : Below w.heap.size w w1 := b01.trans (bel1.mono (by omega))
   clear bel1 d0 d1 d2 e0 e1 e2
   rcases (show Om.chk o.p o.k.data.toList o.v.data.toList = 0 ∨ _ from Om.chk_two _ _ _) with hc | hc
   ·rw [hc]
    have HT2 := hide (first_take HT.out HO.out hc)
    clear hc
    go_wp2
    go_roundw
    case rel => exact ⟨k + 1, by omega, by go_num, HT2, bel2⟩
    case measure => simp [intOf]; omega
   ·rw [hc]
    have HB := hide (Bm.first_bad (List.mem_of_getElem? HO.out) (show Bm.Ov.c o ≠ 0 by unfold Bm.Ov.c Bm.Ov.kl Bm.Ov.vl; rw [hc]; simp))
    clear hc
    go_wp2
    go_ret
    refine ⟨ret_i64 HB.out.symm, ?_, Out.of_below bel2⟩
    unfold Tm.aft
    rw [HB.out]
    exact HT0.out.below bel2
  ·have hkn : k = n := by omega
   have HB : Hid (Bm.first l = 0) := hide (Bm.first_all (fun q hq => HT.out q (by rw [List.take_of_length_le (by have := HN.out; omega)]; exact hq)))
   have hlt' : ¬ (k : Int) < n := by omega
   have HT1 := hide (HT0.out.below bel)
   have HBEL := hide bel
   clear hc bel
   go_wp2
   go_loopw [27] (fun i wr => ∃ (k : Nat), k ≤ n ∧ i = .int .i64 k ∧ Hid (Tb p b wr (Tm.app t (l.take k))) ∧ Out (fun g => g = b) w wr) (fun i _ => n - (intOf i).toNat)
   case atStart => exact ⟨0, by omega, rfl, HT1, Out.of_below HBEL.out⟩
   case round =>
    obtain ⟨k, hk, rfl, HT, bel⟩ := hrel
    have sz := bel.size
    by_cases hlt : k < n
    ·obtain ⟨o, ho⟩ : ∃ o, l[k]? = some o := ⟨l[k]'(by have := HN.out; omega), by rw [List.getElem?_eq_getElem]⟩
     obtain ⟨b1, o1, cq, hvx, _, _, hB, hcell⟩ := HFULL.out (by omega)
     simp only [Value.slice.injEq, true_and] at hvx
     obtain ⟨rfl, rfl⟩ := hvx
     obtain ⟨c0, c1, c2⟩ := hcell k o ho
     have hbb := HT0.out.row c0
     have hblk := bel.block b1 hB hbb
     have d0 := (cell_of_blk' hblk (o1 + k * 3)).trans c0
     have d1 := (cell_of_blk' hblk (o1 + k * 3 + 1)).trans c1
     have d2 := (cell_of_blk' hblk (o1 + k * 3 + 2)).trans c2
     have HO := hide ho
     clear c0 c1 c2 ho hcell hblk
     have hlt'' : (k : Int) < n := by omega
     obtain ⟨hk1, hv1⟩ := HF.out o (List.mem_of_getElem? HO.out)
     obtain ⟨W1, hW1, sz1, bW1, B1⟩ := blk_step wr #[.bool o.p, .string o.k, .string o.v] 65
     have e0 := blk_cell B1 0 rfl
     have e1 := blk_cell B1 1 rfl
     have e2 := blk_cell B1 2 rfl
     have T1 := HT.out.below bW1
     have pc := T1.cell
     have hlen : (Tm.app t (l.take k)).length < 140737488355328 := by
      have h1 := Tm.app_len (l.take k) t
      rw [List.length_take] at h1
      omega
     obtain ⟨W2, hrun, T2, g2⟩ := tb_put (w := W1.drew) o (T1.agree rfl rfl) (by omega) hlen
     have R2 : Hid (Tb p b W2 (Tm.app t (l.take (k + 1))) ∧ Out (fun g => g = b) w W2) := hide ⟨by
      obtain ⟨hk', hk2⟩ := List.getElem?_eq_some_iff.1 HO.out
      rw [List.take_succ_eq_append_getElem hk', hk2, Tm.app_snoc]
      exact T2, by
      have q1 : Out (fun g => g = b) w W1 := bel.trans (Out.of_below (F := fun g => g = b) bW1) fun g hg => .inl hg
      have q2 : Out (fun g => g = b) w W1.drew := q1.drew 1
      exact q2.trans (Out.of_grown (F := fun g => g = b) g2 fun g hg => by simpa using hg.symm) fun g hg => .inl hg⟩
     clear T1 T2 g2 B1 bW1 bel
     go_wp2
     go_region
     go_wp2
     go_roundw
     case rel => exact ⟨k + 1, by omega, by go_num, R2.out⟩
     case measure => simp [intOf]; omega
    ·have hkn' : k = n := by omega
     have hlt'' : ¬ (k : Int) < n := by omega
     have HE : Hid (Tb p b wr (Tm.aft t l)) := hide (by
      have h1 := HT.out
      rw [List.take_of_length_le (by have := HN.out; omega)] at h1
      unfold Tm.aft
      rw [HB.out]
      exact h1)
     go_wp2
     go_ret
     exact ⟨ret_i64 HB.out.symm, HE.out, bel⟩

end Go.Proofs.YtmmfakpphjjjfaaGreat

/- A store in memory: the program's object, its rest, its table, its runs. -/
namespace Go.Proofs.YtmmfakpphjjjfaaGreat
open Go.RowKit
open Bm (Ov)
set_option linter.unusedVariables false

theorem fit_com {e n : Int} {l : List Ov} (h : Cm.chk e n l = 0) : FitO l ∧ l.length * 40 ≤ 140737488351232 ∧ In64 e ∧ In64 n ∧ l.length ≤ 8 := by
 obtain ⟨h1, h2, h3, h4, h5⟩ := Cm.chk_zero h
 obtain ⟨k1, k2, k3⟩ := Bm.chkL_zero h5
 refine ⟨fun o ho => ?_, by omega, ⟨by omega, by omega⟩, ⟨by omega, by omega⟩, k2⟩
 obtain ⟨_, k2, k3, _⟩ := Om.chk_ok' (k3 o ho)
 have e1 : o.k.size = o.k.data.toList.length := rfl
 have e2 : o.v.size = o.v.data.toList.length := rfl
 have e3 : o.kl = o.k.data.toList := rfl
 have e4 : o.vl = o.v.data.toList := rfl
 rw [e3] at k2
 rw [e4] at k3
 omega

structure Rt (base : Nat) (w : World) (l : List Cm.Cv) (v : Value) (rs : List Cw) : Prop where
 row : OwnR 50 base w v rs
 cop : CopyR base w rs
 is : cvs rs = l
 good : ∀ c ∈ l, Cm.chk c.e c.n c.l = 0
 few : l.length ≤ 1048576

section
variable {base base' : Nat} {w w' : World} {l : List Cm.Cv} {v : Value} {rs : List Cw} {F G : Nat → Prop}

theorem Rt.nil (base : Nat) (w : World) : Rt base w [] (.slice none 0 0) [] := ⟨OwnR.nil _ _ _, fun c hc => by simp at hc, rfl, fun c hc => by simp at hc, by simp⟩

theorem Rt.ty (h : Rt base w l v rs) : ∀ g, QB v rs g → ∃ cs t, w.heap[g]? = some (.cells cs t (0, 0)) ∧ (t = 50 ∨ t = 65) := by
 rintro g (hb | ⟨c, hc, hb⟩)
 ·obtain ⟨cs, e⟩ := h.row.type hb
  exact ⟨_, _, e, .inl rfl⟩
 ·obtain ⟨cs, e⟩ := (h.cop c hc).type hb
  exact ⟨_, _, e, .inr rfl⟩

theorem Rt.lt (h : Rt base w l v rs) : ∀ g, QB v rs g → g < w.heap.size := fun g hg => by
 obtain ⟨cs, t, e, _⟩ := h.ty g hg
 exact blk_lt e

theorem Rt.ge (h : Rt base w l v rs) : ∀ g, QB v rs g → base ≤ g := by
 rintro g (hb | ⟨c, hc, hb⟩)
 ·exact (World.ownsRow.lt h.row g hb).1
 ·exact ((h.cop c hc).block g hb).1

theorem Rt.agree (h : Rt base w l v rs) (ha : ∀ g, QB v rs g → w'.heap[g]? = w.heap[g]?) : Rt base w' l v rs :=
 ⟨row_agree h.row fun b hb => ha b (.inl hb), fun c hc => row_agree (h.cop c hc) fun b hb => ha b (.inr ⟨c, hc, hb⟩), h.is, h.good, h.few⟩

theorem Rt.below (h : Rt base w l v rs) (hb : Below w.heap.size w w') : Rt base w' l v rs := h.agree fun g hg => hb.block g (h.lt g hg)

theorem Rt.out (h : Rt base w l v rs) (ho : Out F w w') (hd : ∀ g, QB v rs g → ¬ F g) : Rt base w' l v rs := h.agree fun g hg => ho.block g (h.lt g hg) (hd g hg)

theorem Rt.rebase (h : Rt base w l v rs) (hb : base' ≤ base) : Rt base' w l v rs := ⟨row_rebase h.row hb, fun c hc => (h.cop c hc).rebase hb, h.is, h.good, h.few⟩

theorem Rt.ne (h : Rt base w l v rs) {b : Nat} {cs : Array Value} {t : TypeId} {fr : Nat × Nat} (hb : w.heap[b]? = some (.cells cs t fr)) (h1 : t ≠ 50) (h3 : t ≠ 65) : ¬ QB v rs b := by
 intro hg
 obtain ⟨cs', t', e, ht⟩ := h.ty b hg
 rw [hb] at e
 simp only [Option.some.injEq, Obj.cells.injEq] at e
 obtain ⟨_, e2, _⟩ := e
 subst e2
 rcases ht with e | e
 ·exact h1 e
 ·exact h3 e

theorem Rt.len (h : Rt base w l v rs) : rs.length = l.length := by rw [← h.is, cvs, List.length_map]

theorem Rt.get (h : Rt base w l v rs) : ∀ c ∈ rs, Cm.chk c.e c.n c.l = 0 := fun c hc => by
 refine h.good c.c ?_
 rw [← h.is]
 exact List.mem_map.2 ⟨c, hc, rfl⟩

theorem Rt.isc (h : Rt base w l v rs) : IsC w v rs := ⟨h.row.row, fun c hc => ⟨(h.cop c hc).is, (fit_com (h.get c hc)).2.2.1, (fit_com (h.get c hc)).2.2.2.1⟩⟩

theorem Rt.fit (h : Rt base w l v rs) : FitC rs := fun c hc => ⟨(fit_com (h.get c hc)).1, (fit_com (h.get c hc)).2.1⟩

theorem Rt.at (h : Rt base w l v rs) {k : Nat} {c : Cw} (hc : rs[k]? = some c) : l[k]? = some c.c := by rw [← h.is, cvs, List.getElem?_map, hc]; rfl

theorem Rt.grow {v' : Value} {c : Cw} (h : Rt base w l v rs) (ho : OwnR 50 base w' v' (rs ++ [c])) (hk : KeepT 50 w w') (hc : OwnO 65 base w c.v c.l) (hg : Cm.chk c.e c.n c.l = 0) (hn : l.length + 1 ≤ 1048576) : Rt base w' (l ++ [c.c]) v' (rs ++ [c]) := by
 refine ⟨ho, fun d hd => ?_, by unfold cvs; rw [List.map_append, ← h.is]; rfl, fun d hd => ?_, by rw [List.length_append, List.length_singleton]; exact hn⟩
 ·rcases List.mem_append.1 hd with hd | hd
  ·exact (h.cop d hd).keepT hk (by decide)
  ·rw [List.mem_singleton.1 hd]
   exact hc.keepT hk (by decide)
 ·rcases List.mem_append.1 hd with hd | hd
  ·exact h.good d hd
  ·rw [List.mem_singleton.1 hd]
   exact hg

end

structure StV (ps p pm bm : Nat) (w : World) (l : List Cm.Cv) (v : Value) (rs : List Cw) : Prop where
 blk : w.heap[ps]? = some (.cells #[.pointer (some ⟨p, 0, none⟩), v, .pointer (some ⟨pm, 0, none⟩)] 95 (0, 0))
 rest : Rt 0 w l v rs
 tb : Tb pm bm w (Rl.tab l)

def SB (ps pm bm : Nat) (v : Value) (rs : List Cw) (g : Nat) : Prop := g = ps ∨ g = pm ∨ g = bm ∨ QB v rs g

def Sk (ps p : Nat) (G : Nat → Prop) (w : World) (l : List Cm.Cv) : Prop := ∃ pm bm v rs, StV ps p pm bm w l v rs ∧ G = SB ps pm bm v rs

section
variable {ps p pm bm q : Nat} {w w' w1 w2 : World} {l : List Cm.Cv} {v : Value} {rs : List Cw} {F G F1 : Nat → Prop}

theorem StV.lt (h : StV ps p pm bm w l v rs) : ∀ g, SB ps pm bm v rs g → g < w.heap.size := by
 rintro g (rfl | rfl | rfl | hg)
 ·exact blk_lt h.blk
 ·exact h.tb.plt
 ·exact h.tb.blt
 ·exact h.rest.lt g hg

theorem StV.agree (h : StV ps p pm bm w l v rs) (ha : ∀ g, SB ps pm bm v rs g → w'.heap[g]? = w.heap[g]?) : StV ps p pm bm w' l v rs :=
 ⟨(ha ps (.inl rfl)).trans h.blk, h.rest.agree fun g hg => ha g (.inr (.inr (.inr hg))), h.tb.agree (ha pm (.inr (.inl rfl))) (ha bm (.inr (.inr (.inl rfl))))⟩

theorem StV.below (h : StV ps p pm bm w l v rs) (hb : Below w.heap.size w w') : StV ps p pm bm w' l v rs := h.agree fun g hg => hb.block g (h.lt g hg)
theorem StV.out (h : StV ps p pm bm w l v rs) (ho : Out F w w') (hd : ∀ g, SB ps pm bm v rs g → ¬ F g) : StV ps p pm bm w' l v rs := h.agree fun g hg => ho.block g (h.lt g hg) (hd g hg)

theorem Sk.lt (h : Sk ps p G w l) : ∀ g, G g → g < w.heap.size := by
 obtain ⟨pm, bm, v, rs, h, rfl⟩ := h
 exact h.lt
theorem Sk.agree (h : Sk ps p G w l) (ha : ∀ g, G g → w'.heap[g]? = w.heap[g]?) : Sk ps p G w' l := by
 obtain ⟨pm, bm, v, rs, h, rfl⟩ := h
 exact ⟨pm, bm, v, rs, h.agree ha, rfl⟩

end

def SW (ps p q : Nat) (F : Nat → Prop) (w : World) (s : Sto.Ss) : Prop := ∃ F1 G1, RW p q F1 w s.r ∧ Sk ps p G1 w s.l ∧ (∀ g, G1 g → ¬ F1 g) ∧ Sto.Ok s ∧ F = fun g => F1 g ∨ G1 g

def StS (ps p q : Nat) (F : Nat → Prop) (w w' : World) (s' : Sto.Ss) : Prop := ∃ F', SW ps p q F' w' s' ∧ Out F w w' ∧ ∀ g, F' g → F g ∨ w.heap.size ≤ g

section
variable {ps p q : Nat} {F G : Nat → Prop} {w w' w1 w2 : World} {s s' : Sto.Ss}

theorem SW.lt (h : SW ps p q F w s) : ∀ g, F g → g < w.heap.size := by
 obtain ⟨F1, G1, h1, h2, _, _, rfl⟩ := h
 rintro g (hg | hg)
 ·exact h1.lt g hg
 ·exact h2.lt g hg

theorem SW.agree (h : SW ps p q F w s) (ha : ∀ g, F g → w'.heap[g]? = w.heap[g]?) : SW ps p q F w' s := by
 obtain ⟨F1, G1, h1, h2, h3, h4, rfl⟩ := h
 exact ⟨F1, G1, h1.agree fun g hg => ha g (.inl hg), h2.agree fun g hg => ha g (.inr hg), h3, h4, rfl⟩
theorem SW.below (h : SW ps p q F w s) (hb : Below w.heap.size w w') : SW ps p q F w' s := h.agree fun g hg => hb.block g (h.lt g hg)
theorem SW.out (h : SW ps p q F w s) (ho : Out G w w') (hd : ∀ g, F g → ¬ G g) : SW ps p q F w' s := h.agree fun g hg => ho.block g (h.lt g hg) (hd g hg)
theorem SW.ok (h : SW ps p q F w s) : Sto.Ok s := by
 obtain ⟨F1, G1, h1, h2, h3, h4, rfl⟩ := h
 exact h4

theorem StS.trans {F1 : Nat → Prop} (ho : Out F w w1) (hs : ∀ g, F1 g → F g ∨ w.heap.size ≤ g) (k : StS ps p q F1 w1 w2 s') : StS ps p q F w w2 s' := by
 obtain ⟨F2, h1, h2, h3⟩ := k
 refine ⟨F2, h1, ho.trans h2 hs, fun g hg => ?_⟩
 rcases h3 g hg with h | h
 ·exact hs g h
 ·exact .inr (Nat.le_trans ho.size h)
theorem StS.same (h : SW ps p q F w s) (hb : Below w.heap.size w w') : StS ps p q F w w' s := ⟨F, h.below hb, Out.of_below hb, fun g hg => .inl hg⟩
theorem StS.pre (hb : Below w.heap.size w w1) (h : StS ps p q F w1 w2 s') : StS ps p q F w w2 s' := h.trans (Out.of_below hb) fun g hg => .inl hg

end

end Go.Proofs.YtmmfakpphjjjfaaGreat
