/- Texts of one layer, one behind the other. -/
import Derived.Test.YtmmfakpphjjjfaaGreatG33
import Derived.Test.YtmmfakpphjjjfaaGreatG35
import Derived.Test.YtmmfakpphjjjfaaGreatG36
import Derived.Test.YtmmfakpphjjjfaaGreatPj
import Derived.Test.YtmmfakpphjjjfaaGreatG4
import Derived.Test.YtmmfakpphjjjfaaGreatG17
import Derived.Test.YtmmfakpphjjjfaaGreatG13
import Derived.Test.YtmmfakpphjjjfaaGreatG6
/- The chapter's example of runs, and that the program lives. -/
namespace Go.Proofs.YtmmfakpphjjjfaaGreat
open Go.RowKit
open Bm (Ov)
set_option linter.unusedVariables false

def rs0 : Rl.Rs := ⟨Dm.new, [], false⟩

theorem rnew_log {l : List Cm.Cv} (h : Rl.Lg 0 (Rl.hld Dm.new) l) : l = [] := Rl.lg_one h (Rl.lg_self (l := []) trivial)
theorem rnew_op : ropE Dm.new [] = 0 ∧ ropD Dm.new [] = Dm.new := ⟨rfl, rfl⟩

theorem rnew_any (w0 w : World) (q : Nat) (hq : w0.heap.size ≤ q) (h : Pk q (fun g => g = q) w Dm.new) (hb : Below w0.heap.size w0 w) :
  Calls Tryz.prog 8 #[.pointer (some ⟨q, 0, none⟩)] w fun E w' => ∃ p F, E = .returned (.tuple #[.pointer (some ⟨p, 0, none⟩), .int .i64 0]) ∧ RW p q F w' rs0 ∧ (∀ g, F g → w0.heap.size ≤ g) ∧ Below w0.heap.size w0 w' := by
 refine (hopen_any q _ w Dm.new h (big_new.mono (by decide) (by decide))).mono ?_
 rintro E w' ⟨l, LG, PS, hc⟩
 have hl := rnew_log LG.out
 subst hl
 obtain ⟨F', k1, k2, k3⟩ := PS
 have hbs := hb.size
 rcases hc with ⟨h0, _⟩ | ⟨_, p, G, rfl, hw, hg⟩
 ·exact absurd rnew_op.1 h0
 ·refine ⟨p, _, rfl, ⟨F', G, k1, hw, rfl⟩, ?_, hb.trans (k2.below (fun g hg => by omega) hb.size)⟩
  rintro g (e | e)
  ·rcases k3 g e with e | e
   ·omega
   ·omega
  ·have := hg g e
   omega

theorem hget_any (p q : Nat) (F : Nat → Prop) (w : World) (s : Rl.Rs) (key : ByteArray) (h : RW p q F w s) :
  Calls Tryz.prog 106 #[.pointer (some ⟨p, 0, none⟩), .string key] w fun E w' => E = .returned (.tuple #[.string (gv (Rl.tab s.l) key), .bool (Tm.met (Rl.tab s.l) key), .bool (gp (Rl.tab s.l) key)]) ∧ Below w.heap.size w w' := by
 obtain ⟨F1, G1, h1, ⟨v, rs, hv, _⟩, _⟩ := h
 exact hget_v p q w s.l s.bk v rs key hv

theorem hlist_any (p q : Nat) (F : Nat → Prop) (w : World) (s : Rl.Rs) (h : RW p q F w s) :
  Calls Tryz.prog 101 #[.pointer (some ⟨p, 0, none⟩)] w fun E w' => ∃ v' rs', E = .returned v' ∧ Rq w.heap.size w' s.l v' rs' ∧ ApC rs' ∧ Below w.heap.size w w' := by
 obtain ⟨F1, G1, h1, ⟨v, rs, hv, _⟩, _⟩ := h
 exact hlist_v p q w s.l s.bk v rs hv

end Go.Proofs.YtmmfakpphjjjfaaGreat

/- Of a store: its end, its last epoch, whether it is one, what it tells of a key. -/
namespace Go.Proofs.YtmmfakpphjjjfaaGreat
open Go.RowKit
open Bm (Ov)
set_option linter.unusedVariables false

theorem new_cell (w : World) (t : TypeId) (x a : Value) : ∃ V, (w.alloc (.cells #[x] t)).setCell ⟨w.heap.size, 0, none⟩ a = V ∧ w.alloc (.cells #[a] t) = V ∧ V.heap.size = w.heap.size + 1 ∧ Below w.heap.size w V ∧ V.heap[w.heap.size]? = some (.cells #[a] t (0, 0)) ∧ V.cell? ⟨w.heap.size, 0, none⟩ = some a := by
 obtain ⟨V, hV, sz, bel, hB⟩ := blk_step w #[a] t
 refine ⟨V, ?_, hV, sz, bel, hB, blk_cell hB 0 rfl⟩
 rw [← hV]
 simp [go_sem]

theorem last_epoch {l : List Cm.Cv} {k : Nat} {c : Cm.Cv} (hk : l[k]? = some c) (hl : l.length = k + 1) (e : Int) : Cm.lastE e l = c.e := by
 rcases List.eq_nil_or_concat l with rfl | ⟨r, d, rfl⟩
 ·simp at hk
 ·rw [List.concat_eq_append] at hk hl ⊢
  rw [List.length_append, List.length_singleton] at hl
  obtain rfl : r.length = k := by omega
  rw [(Cm.last_snoc r d e 0).1]
  simp at hk
  rw [hk]

theorem send_any (ps p q : Nat) (F : Nat → Prop) (w : World) (s : Sto.Ss) (h : SW ps p q F w s) :
  Calls Tryz.prog 63 #[.pointer (some ⟨ps, 0, none⟩)] w fun E w' => E = .returned (.int .i64 (Sto.fin s)) ∧ ∃ m, w' = w.drewN m := by
 obtain ⟨F1, G1, h1, ⟨pm, bm, v, rs, hs, _⟩, _, ok, _⟩ := h
 have HE : Hid (∀ m, Calls Tryz.prog 40 #[.pointer (some ⟨p, 0, none⟩)] (w.drewN m) fun E w' => E = .returned (.int .i64 (Cm.lastN 0 s.r.l)) ∧ ∃ q, w' = (w.drewN m).drewN q) := hide fun m =>
  (hrend_any p q F1 (w.drewN m) s.r (h1.below (below_drewN (Below.refl _ _) m))).mono fun E w' h => ⟨h.1, 0, by rw [← h.2]; rfl⟩
 have c0 := blk_cell hs.blk 0 rfl
 have c1 := blk_cell hs.blk 1 rfl
 simp only [List.getElem_toArray, List.getElem_cons_zero, List.getElem_cons_succ] at c0 c1
 obtain ⟨ao, cap, hv, _, _⟩ := hs.rest.row.row.shape
 obtain ⟨b1, b2, b3, b4⟩ := ok.bound
 have hl := hs.rest.len
 unfold Sto.fin
 rw [hl] at hv
 have hw : IntKind.i64.wrap (Cm.lastN 0 s.r.l + (s.l.length : Int)) = Cm.lastN 0 s.r.l + (s.l.length : Int) := wrap_i64_small _ (by omega) (by omega)
 generalize Cm.lastN 0 s.r.l = z at *
 generalize s.l.length = n at *
 subst hv
 clear hs h1 ok hl
 go_enter Tryz.func63, Tryz.ntmps63
 go_wp2_with fail
 go_quiet ((go_at_call 40; refine Calls.quiet_of (HE.out _)))
 go_wp2
 go_ret
 exact ⟨rfl, _, rfl⟩

theorem sepo_any (ps p q : Nat) (F : Nat → Prop) (w : World) (s : Sto.Ss) (h : SW ps p q F w s) :
  Calls Tryz.prog 88 #[.pointer (some ⟨ps, 0, none⟩)] w fun E w' => E = .returned (.int .i64 (Cm.lastE 1 s.l)) ∧ ∃ m, w' = w.drewN m := by
 obtain ⟨F1, G1, h1, ⟨pm, bm, v, rs, hs, _⟩, _, ok, _⟩ := h
 have c1 := blk_cell hs.blk 1 rfl
 simp only [List.getElem_toArray, List.getElem_cons_zero, List.getElem_cons_succ] at c1
 have hfew := hs.rest.few
 rw [← hs.rest.len] at hfew
 rw [← hs.rest.is]
 have h := hs.rest.row.row
 by_cases h0 : rs.length = 0
 ·have hr : rs = [] := List.eq_nil_of_length_eq_zero h0
  subst hr
  obtain ⟨ao, cap, rfl, _, _⟩ := h.shape
  clear h hs h1 ok
  go_enter Tryz.func88, Tryz.ntmps88
  go_wp2
  go_ret
  exact ⟨rfl, 0, rfl⟩
 ·obtain ⟨k, hk⟩ : ∃ k, rs.length = k + 1 := ⟨rs.length - 1, by omega⟩
  obtain ⟨g, off, cap, rfl, _, _, _, hcell⟩ := h.full (by omega)
  obtain ⟨c, hck⟩ : ∃ c, rs[k]? = some c := ⟨rs[k]'(by omega), by rw [List.getElem?_eq_getElem]⟩
  obtain ⟨d0, _, _⟩ := hcell k c hck
  have hL : Cm.lastE 1 (cvs rs) = c.e := last_epoch (k := k) (c := c.c) (by unfold cvs; rw [List.getElem?_map, hck]; rfl) (by unfold cvs; rw [List.length_map]; exact hk) 1
  rw [hL]
  rw [hk] at c1
  have hne : (((k + 1 : Nat) : Int) == 0) = false := by simp; omega
  have hw : IntKind.i64.wrap (((k + 1 : Nat) : Int) - 1) = (k : Int) := by rw [wrap_i64_small _ (by omega) (by omega)]; omega
  have hk1 : (k : Int) < ((k + 1 : Nat) : Int) := by omega
  have hk0 : (0 : Int) ≤ (k : Int) := by omega
  have hw2 : IntKind.i64.wrap (k : Int) = (k : Int) := wrap_i64_small _ (by omega) (by omega)
  have hk2 : (k : Int) < (k : Int) + 1 := by omega
  generalize c.e = z at *
  clear h hs h1 ok hcell hck hL hk hfew h0
  go_enter Tryz.func88, Tryz.ntmps88
  go_wp2
  go_region
  go_wp2
  go_ret
  exact ⟨rfl, 1, rfl⟩

theorem catch_any (ps p q : Nat) (F : Nat → Prop) (w : World) (s : Sto.Ss) (h : SW ps p q F w s) :
  Calls Tryz.prog 93 #[.pointer (some ⟨ps, 0, none⟩)] w fun E w' => (∃ u, E = .returned u) ∧ Below w.heap.size w w' := by
 obtain ⟨F1, G1, h1, ⟨pm, bm, v, rs, hs, _⟩, _, ok, _⟩ := h
 have HE := hide (hrend_any p q F1 w s.r h1)
 have c0 := blk_cell hs.blk 0 rfl
 have hfew := hs.rest.few
 have hrow := hs.rest.row.row
 obtain ⟨V, hV1, hV, szV, bV, BV, cV⟩ := new_cell w 3 (.int .i64 0) (.int .i64 (Cm.lastN 0 s.r.l))
 have d1 := blk_cell (hs.below bV).blk 1 rfl
 simp only [List.getElem_toArray, List.getElem_cons_zero, List.getElem_cons_succ] at c0 d1
 have hgd := ok.rest
 rw [← hs.rest.is] at hgd
 generalize Cm.lastN 0 s.r.l = z at *
 by_cases h0 : rs.length = 0
 ·have hr : rs = [] := List.eq_nil_of_length_eq_zero h0
  subst hr
  obtain ⟨ao, cap, rfl, _, _⟩ := hrow.shape
  have B := hide bV
  clear hrow hs h1 ok hgd bV BV h0
  go_enter Tryz.func93, Tryz.ntmps93
  go_wp2_with fail
  refine HE.out.mono ?_
  rintro E w1 ⟨rfl, rfl⟩
  go_wp2_with fail
  go_quiet (fail)
  go_wp2
  refine bodyPost_ret (results_none rfl _ _ _) rfl ?_
  exact ⟨⟨_, rfl⟩, below_drewN B.out _⟩
 ·obtain ⟨c, hck⟩ : ∃ c, rs[0]? = some c := ⟨rs[0]'(by omega), by rw [List.getElem?_eq_getElem]⟩
  obtain ⟨g, off, cap, rfl, _, _, hg, hcell⟩ := hrow.full (by omega)
  obtain ⟨_, e1, _⟩ := hcell 0 c hck
  have hn : z < c.n := by
   obtain ⟨_, h2, _, _⟩ := Cm.good_at _ _ _ 0 c.c hgd (by unfold cvs; rw [List.getElem?_map, hck]; rfl)
   have : c.c.n = c.n := rfl
   omega
  have e1' : V.cell? ⟨g, off + 1, none⟩ = some (.int .i64 c.n) := (bV.cell (p := ⟨g, off + 1, none⟩) hg).trans (by simpa using e1)
  have hlen : ((rs.length : Int) == 0) = false := beq_eq_false_iff_ne.2 (by omega)
  have hl0 : (0 : Int) < rs.length := by omega
  generalize rs.length = n at *
  generalize c.n = x at *
  have B := hide bV
  clear hrow hs h1 ok hgd bV BV h0 hcell hck e1
  go_enter Tryz.func93, Tryz.ntmps93
  go_wp2_with fail
  refine HE.out.mono ?_
  rintro E w1 ⟨rfl, rfl⟩
  go_wp2_with fail
  go_quiet (fail)
  go_wp2
  refine bodyPost_ret (results_none rfl _ _ _) rfl ?_
  exact ⟨⟨_, rfl⟩, below_drewN B.out _⟩

theorem sready_any (ps p q : Nat) (F : Nat → Prop) (w : World) (s : Sto.Ss) (h : SW ps p q F w s) :
  Calls Tryz.prog 61 #[.pointer (some ⟨ps, 0, none⟩)] w fun E w' => E = .returned (.bool true) ∧ Below w.heap.size w w' := by
 have HC := hide (catch_any ps p q F w s h)
 obtain ⟨F1, G1, h1, ⟨pm, bm, v, rs, hs, _⟩, _, ok, _⟩ := h
 have c0 := blk_cell hs.blk 0 rfl
 simp only [List.getElem_toArray, List.getElem_cons_zero] at c0
 clear hs h1 ok
 go_enter Tryz.func61, Tryz.ntmps61
 go_wp2_with fail
 refine HC.out.mono ?_
 rintro E w1 ⟨⟨u, rfl⟩, b1⟩
 go_wp2
 go_ret
 exact ⟨rfl, b1⟩

theorem sEnd_any (ps p q : Nat) (F : Nat → Prop) (w : World) (s : Sto.Ss) (h : SW ps p q F w s) :
  Calls Tryz.prog 27 #[.pointer (some ⟨ps, 0, none⟩)] w fun E w' => E = .returned (.int .i64 (Sto.fin s)) ∧ Below w.heap.size w w' := by
 have HC := hide (sready_any ps p q F w s h)
 have HS := hide h
 clear h
 go_enter Tryz.func27, Tryz.ntmps27
 go_wp2_with fail
 refine HC.out.mono ?_
 rintro E w1 ⟨rfl, b1⟩
 have HN := hide (send_any ps p q F w1 s (HS.out.below b1))
 go_wp2_with fail
 refine HN.out.mono ?_
 rintro E w2 ⟨rfl, m, rfl⟩
 go_wp2
 go_ret
 exact ⟨rfl, below_drewN b1 _⟩

theorem sRest_any (ps p q : Nat) (F : Nat → Prop) (w : World) (s : Sto.Ss) (h : SW ps p q F w s) :
  Calls Tryz.prog 28 #[.pointer (some ⟨ps, 0, none⟩)] w fun E w' => E = .returned (.int .i64 s.l.length) ∧ Below w.heap.size w w' := by
 have HC := hide (sready_any ps p q F w s h)
 have HS := hide h
 clear h
 go_enter Tryz.func28, Tryz.ntmps28
 go_wp2_with fail
 refine HC.out.mono ?_
 rintro E w1 ⟨rfl, b1⟩
 obtain ⟨F1, G1, h1, ⟨pm, bm, v, rs, hs, _⟩, _, ok, _⟩ := HS.out.below b1
 have c1 := blk_cell hs.blk 1 rfl
 simp only [List.getElem_toArray, List.getElem_cons_zero, List.getElem_cons_succ] at c1
 obtain ⟨ao, cap, hv, _, _⟩ := hs.rest.row.row.shape
 rw [hs.rest.len] at hv
 subst hv
 clear hs h1 ok
 go_wp2
 go_ret
 exact ⟨rfl, b1⟩

theorem fold_v (s : Sto.Ss) (k : ByteArray) : gv (Sto.fold s) k = (if Tm.met (Rl.tab s.l) k = true then gv (Rl.tab s.l) k else gv (Rl.tab s.r.l) k) ∧ gp (Sto.fold s) k = (if Tm.met (Rl.tab s.l) k = true then gp (Rl.tab s.l) k else gp (Rl.tab s.r.l) k) := by
 unfold gv gp
 rw [Sto.fold_get, Tm.met_get]
 cases Tm.get (Rl.tab s.l) k with
 | none => simp
 | some o => simp

theorem slook_any (ps p q B : Nat) (F : Nat → Prop) (w : World) (s : Sto.Ss) (k : ByteArray) (h : SW ps p q F w s) (hk : k.size ≤ 140737488355328) (hB : w.heap[B]? = some (.cells #[.pointer (some ⟨ps, 0, none⟩)] 40 (0, 0))) :
  Calls Tryz.prog 104 #[.string k, .pointer (some ⟨B, 0, none⟩)] w fun E w' => E = .returned (.tuple #[.string (gv (Sto.fold s) k), .bool (gp (Sto.fold s) k)]) ∧ Below w.heap.size w w' := by
 have hx := h
 obtain ⟨F1, G1, h1, ⟨pm, bm, v, rs, hs, _⟩, _, ok, _⟩ := hx
 have c0 := blk_cell hs.blk 0 rfl
 have c2 := blk_cell hs.blk 2 rfl
 have cB := blk_cell hB 0 rfl
 simp only [List.getElem_toArray, List.getElem_cons_zero, List.getElem_cons_succ] at c0 c2 cB
 have HT := hide (tget_any pm bm w _ k hs.tb hk)
 obtain ⟨e1, e2⟩ := fold_v s k
 rw [e1, e2]
 have HR : Hid (∀ W, Below w.heap.size w W → Calls Tryz.prog 106 #[.pointer (some ⟨p, 0, none⟩), .string k] W fun E w' => E = .returned (.tuple #[.string (gv (Rl.tab s.r.l) k), .bool (Tm.met (Rl.tab s.r.l) k), .bool (gp (Rl.tab s.r.l) k)]) ∧ Below W.heap.size W w') := hide fun W hb => hget_any p q F1 W s.r k (h1.below hb)
 have hps := blk_lt hs.blk
 have hBB := blk_lt hB
 generalize Tm.met (Rl.tab s.l) k = mt at *
 generalize gv (Rl.tab s.l) k = va at *
 generalize gp (Rl.tab s.l) k = pa at *
 generalize gv (Rl.tab s.r.l) k = vb at *
 generalize gp (Rl.tab s.r.l) k = pb at *
 generalize Tm.met (Rl.tab s.r.l) k = mb at *
 clear hs h1 ok h hB e1 e2
 cases mt with
 | true =>
  simp only [if_true]
  go_enter Tryz.func104, Tryz.ntmps104
  go_wp2_with fail
  refine HT.out.mono ?_
  rintro E w1 ⟨rfl, b1⟩
  go_wp2
  go_ret2
  exact ⟨rfl, b1⟩
 | false =>
  simp only [Bool.false_eq_true, if_false]
  go_enter Tryz.func104, Tryz.ntmps104
  go_wp2_with fail
  refine HT.out.mono ?_
  rintro E w1 ⟨rfl, b1⟩
  have x0 := (b1.cell (p := ⟨ps, 0, none⟩) hps).trans c0
  have xB := (b1.cell (p := ⟨B, 0, none⟩) hBB).trans cB
  have HR1 := hide (HR.out w1 b1)
  go_wp2_with fail
  refine HR1.out.mono ?_
  rintro E w2 ⟨rfl, b2⟩
  go_wp2
  go_ret2
  exact ⟨rfl, b1.trans (b2.mono b1.size)⟩

theorem sget_any (ps p q : Nat) (F : Nat → Prop) (w : World) (s : Sto.Ss) (k : ByteArray) (h : SW ps p q F w s) (hk : k.size ≤ 140737488355328) :
  Calls Tryz.prog 26 #[.pointer (some ⟨ps, 0, none⟩), .string k] w fun E w' => E = .returned (.tuple #[.string (gv (Sto.fold s) k), .bool (gp (Sto.fold s) k)]) ∧ Below w.heap.size w w' := by
 have HC := hide (sready_any ps p q F w s h)
 have HS := hide h
 clear h
 go_enter Tryz.func26, Tryz.ntmps26
 go_wp2_with fail
 refine HC.out.mono ?_
 rintro E w1 ⟨rfl, b1⟩
 obtain ⟨V, hV, szV, bV, BV⟩ := blk_step w1 #[.pointer (some ⟨ps, 0, none⟩)] 40
 have HL := hide (slook_any ps p q w1.heap.size F V s k ((HS.out.below b1).below bV) hk BV)
 have HK : Hid (Calls Tryz.prog 62 #[.pointer (some ⟨ps, 0, none⟩)] w1 fun E w' => E = .returned (.func (.func 104) #[] #[.pointer (some ⟨w1.heap.size, 0, none⟩)]) ∧ V = w') := hide (by
  clear HL HS HC BV bV
  go_enter Tryz.func62, Tryz.ntmps62
  go_wp2
  go_ret
  exact ⟨rfl, rfl⟩)
 have B1 := hide (b1.trans (bV.mono b1.size))
 clear BV bV hV HC b1
 go_wp2_with fail
 refine HK.out.mono ?_
 rintro E w2 ⟨rfl, rfl⟩
 go_wp2_with fail
 refine HL.out.mono ?_
 rintro E w3 ⟨rfl, b3⟩
 go_wp2
 go_ret2
 exact ⟨rfl, B1.out.trans (b3.mono B1.out.size)⟩

end Go.Proofs.YtmmfakpphjjjfaaGreat

/- Of a store: the table of commits; the commits that runs have are left out of the rest (slices.DeleteFunc). -/
namespace Go.Proofs.YtmmfakpphjjjfaaGreat
open Go.RowKit
open Bm (Ov)
set_option linter.unusedVariables false

theorem cvs_next {rs : List Cw} {k : Nat} {c : Cw} (h : rs[k]? = some c) : cvs (rs.take (k + 1)) = cvs (rs.take k) ++ [c.c] := by
 obtain ⟨h1, h2⟩ := List.getElem?_eq_some_iff.1 h
 rw [List.take_succ_eq_append_getElem h1, h2]
 simp [cvs]

theorem tab_aft {l : List Cm.Cv} {c : Cm.Cv} (h : Cm.chk c.e c.n c.l = 0) : Tm.aft (Rl.tab l) c.l = Rl.tab (l ++ [c]) ∧ Bm.first c.l = 0 := by
 have h1 : Bm.first c.l = 0 := Bm.first_all (Bm.chkL_zero (Cm.chk_zero h).2.2.2.2).2.2
 unfold Tm.aft
 rw [if_pos h1, Rl.tab_snoc]
 exact ⟨rfl, h1⟩

theorem tab_few {rs : List Cw} (hg : ∀ c ∈ rs, Cm.chk c.e c.n c.l = 0) (k : Nat) (hk : k ≤ rs.length) : (Rl.tab (cvs (rs.take k))).length ≤ k * 8 := by
 have h1 := Tm.app_len (Rl.ops (cvs (rs.take k))) []
 have h2 := Rl.ops_len (l := cvs (rs.take k)) (n := 8) fun c hc => by
  obtain ⟨d, hd, rfl⟩ := List.mem_map.1 hc
  exact (fit_com (hg d (List.mem_of_mem_take hd))).2.2.2.2
 have h3 : (cvs (rs.take k)).length = k := by rw [cvs, List.length_map, List.length_take]; omega
 unfold Rl.tab
 simp only [List.length_nil, Nat.zero_add] at h1
 rw [h3] at h2
 omega

set_option maxHeartbeats 1000000 in
theorem tableof_any (v : Value) (rs : List Cw) (w : World) (h : IsC w v rs) (hg : ∀ c ∈ rs, Cm.chk c.e c.n c.l = 0) (hl : rs.length ≤ 100000) :
  Calls Tryz.prog 89 #[v] w fun E w' => ∃ pm, E = .returned (.pointer (some ⟨pm, 0, none⟩)) ∧ ∃ bm, Tb pm bm w' (Rl.tab (cvs rs)) ∧ w.heap.size ≤ pm ∧ w.heap.size ≤ bm ∧ Below w.heap.size w w' := by
 have HI := hide h
 have HG := hide hg
 obtain ⟨ao, cap, hv, _, _⟩ := h.1.shape
 obtain ⟨n, hn⟩ : ∃ n, rs.length = n := ⟨_, rfl⟩
 have HN := hide hn
 rw [hn] at hv hl
 subst hv
 clear h hg hn
 go_enter Tryz.func89, Tryz.ntmps89
 go_wp2_with fail
 refine (tnew_any w).mono ?_
 rintro E w1 ⟨rfl, T1, b1⟩
 obtain ⟨pm, hpm⟩ : ∃ x, w.heap.size + 1 = x := ⟨_, rfl⟩
 obtain ⟨bm, hbm⟩ : ∃ x, w.heap.size = x := ⟨_, rfl⟩
 rw [hpm] at T1 ⊢
 have hpm' : w.heap.size ≤ pm := by omega
 have T1' : Hid (Tb pm bm w1 (Rl.tab (cvs (rs.take 0)))) := hide (by rw [← hbm]; exact T1)
 have B1 := hide b1
 have hbm' : w.heap.size ≤ bm := by omega
 have hbm2 : bm ≤ w.heap.size := by omega
 have hpm2 : pm ≤ w.heap.size + 1 := by omega
 clear T1 b1 hpm hbm
 go_wp2
 go_loopw [9] (fun iv wr => ∃ (k : Nat), k ≤ n ∧ iv = .int .i64 k ∧ Hid (Tb pm bm wr (Rl.tab (cvs (rs.take k)))) ∧ Hid (Below w.heap.size w wr)) (fun iv _ => n - (intOf iv).toNat)
 case atStart => exact ⟨0, by omega, rfl, T1', B1⟩
 case round =>
  obtain ⟨k, hk, rfl, TR, BR⟩ := hrel
  clear T1' B1
  by_cases hlt : k < n
  ·obtain ⟨⟨ce, cn, cv, cl⟩, hc⟩ : ∃ c, rs[k]? = some c := ⟨rs[k]'(by have := HN.out; omega), by rw [List.getElem?_eq_getElem]⟩
   obtain ⟨g, off, cq, hvx, _, _, hgw, hcell⟩ := HI.out.1.full (by have := HN.out; omega)
   rw [HN.out] at hvx
   simp only [Value.slice.injEq, true_and] at hvx
   obtain ⟨rfl, rfl⟩ := hvx
   obtain ⟨c0, c1, c2⟩ := hcell k _ hc
   have hm := List.mem_of_getElem? hc
   have hch := HG.out _ hm
   obtain ⟨f1, f2, f3, f4, f5⟩ := fit_com hch
   have hio := ((HI.out.2 _ hm).1).below BR.out
   have d0 := (BR.out.cell (p := ⟨g, off + k * 3, none⟩) hgw).trans c0
   have d1 := (BR.out.cell (p := ⟨g, off + k * 3 + 1, none⟩) hgw).trans c1
   have d2 := (BR.out.cell (p := ⟨g, off + k * 3 + 2, none⟩) hgw).trans c2
   obtain ⟨oa, ok, hvo, _, _⟩ := hio.shape
   obtain ⟨wc, hwc, hwc2, szc, belc, bC, x0, x1, x2⟩ := new_step wr 50 (.int .i64 0) (.int .i64 0) (.slice none 0 0) (.int .i64 ce) (.int .i64 cn) cv
   have hta := tab_aft (l := cvs (rs.take k)) (c := ⟨ce, cn, cl⟩) hch
   have HA := hide (tapply_any pm bm wc _ cv cl (TR.out.below belc) (hio.below belc) f1 (by have h1 := tab_few HG.out k (by have := HN.out; omega); simp only at f5; omega))
   rw [hta.1, hta.2, show cvs (rs.take k) ++ [(⟨ce, cn, cl⟩ : Cm.Cv)] = cvs (rs.take (k + 1)) from (cvs_next hc).symm] at HA
   simp only at c0 c1 c2 d0 d1 d2 hvo
   subst hvo
   have hlt' : (k : Int) < n := by omega
   have hk0 : (0 : Int) ≤ (k : Int) := by omega
   have BC := hide (BR.out.trans (belc.mono BR.out.size))
   clear hcell c0 c1 c2 hc hm hch hio f1 f2 f3 f4 TR bC belc hta
   go_wp2_with fail
   refine HA.out.mono ?_
   rintro E w2 ⟨rfl, T2, O2⟩
   have T2 := hide T2
   have B2 := hide (BC.out.trans (O2.below (fun g hg => by omega) BC.out.size))
   clear O2 HA BC
   go_wp2
   go_roundw
   case rel => exact ⟨k + 1, by omega, by go_num, T2, B2⟩
   case measure => simp [intOf]; omega
  ·have hlt' : ¬ (k : Int) < n := by omega
   obtain rfl : k = n := by omega
   have TE : Hid (Tb pm bm wr (Rl.tab (cvs rs))) := hide (by
    have := TR.out
    rwa [List.take_of_length_le (by have := HN.out; omega)] at this)
   go_wp2
   go_ret
   exact ⟨_, rfl, _, TE.out, hpm', hbm', BR.out⟩

theorem upto_any (e n : Int) (v : Value) (z : Int) (B : Nat) (w : World) (hB : w.heap[B]? = some (.cells #[.int .i64 z] 3 (0, 0))) :
  Calls Tryz.prog 134 #[.agg #[.int .i64 e, .int .i64 n, v], .pointer (some ⟨B, 0, none⟩)] w fun E w' => E = .returned (.bool (decide (n ≤ z))) ∧ Below w.heap.size w w' := by
 obtain ⟨V, hV, szV, bV, BV⟩ := blk_step w #[.int .i64 e, .int .i64 n, v] 50
 have c1 := blk_cell BV 1 rfl
 have cB := blk_cell ((bV.block B (blk_lt hB)).trans hB) 0 rfl
 simp only [List.getElem_toArray, List.getElem_cons_zero, List.getElem_cons_succ] at c1 cB
 clear hB BV
 go_enter Tryz.func134, Tryz.ntmps134
 go_wp2
 go_ret
 exact ⟨rfl, bV⟩

theorem idxF_any (w : World) (v : Value) (rs : List Cw) (c : Cw) (z : Int) (B : Nat) (h : RowC w v rs) (hc : rs[0]? = some c) (hz : c.n ≤ z) (hB : w.heap[B]? = some (.cells #[.int .i64 z] 3 (0, 0))) :
  Calls Tryz.prog 161 #[v, .func (.func 134) #[] #[.pointer (some ⟨B, 0, none⟩)]] w fun E w' => E = .returned (.int .i64 0) ∧ Below w.heap.size w w' := by
 have hl0 : 0 < rs.length := (List.getElem?_eq_some_iff.1 hc).1
 obtain ⟨g, off, cap, rfl, _, _, _, hcell⟩ := h.full hl0
 obtain ⟨d0, d1, d2⟩ := hcell 0 c hc
 simp only [Nat.zero_mul, Nat.add_zero] at d0 d1 d2
 have HU := hide (upto_any c.e c.n c.v z B w hB)
 rw [decide_eq_true hz] at HU
 generalize c.e = ce at *
 generalize c.n = cn at *
 generalize c.v = cv at *
 have hl1 : (0 : Int) < rs.length := by omega
 generalize rs.length = n at *
 clear hcell h hB hc
 go_enter Tryz.func161, Tryz.ntmps161
 go_wp2
 go_loopw [8] (fun iv wr => iv = .int .i64 0 ∧ w = wr) (fun _ _ => 0)
 case atStart => exact ⟨rfl, rfl⟩
 case round =>
  obtain ⟨rfl, rfl⟩ := hrel
  go_wp2_with fail
  refine HU.out.mono ?_
  rintro E w1 ⟨rfl, b1⟩
  go_wp2
  go_ret
  exact ⟨rfl, b1⟩

theorem Tryz.zeroCm (wx : World) : (zeroValue 50).run Tryz.prog wx = .ok (.agg #[.int .i64 0, .int .i64 0, .slice none 0 0]) wx := by kernel_rfl

theorem del_at {rs : List Cw} {k i j : Nat} (h1 : k + i ≤ rs.length) (h2 : i ≤ j) : ((rs.drop k).take i ++ rs.drop i)[j]? = rs[j]? := by
 have hl : ((rs.drop k).take i).length = i := by rw [List.length_take, List.length_drop]; omega
 rw [List.getElem?_append_right (by omega), hl, List.getElem?_drop, show i + (j - i) = j by omega]

theorem del_next {rs : List Cw} {k i : Nat} {c : Cw} (hc : rs[k + i]? = some c) : ((rs.drop k).take i ++ rs.drop i).set i c = (rs.drop k).take (i + 1) ++ rs.drop (i + 1) := by
 obtain ⟨hlt, hcc⟩ := List.getElem?_eq_some_iff.1 hc
 have hl : ((rs.drop k).take i).length = i := by rw [List.length_take, List.length_drop]; omega
 rw [List.set_append, if_neg (by omega), hl, Nat.sub_self, List.drop_eq_getElem_cons (show i < rs.length by omega), List.set_cons_zero]
 have hd : i < (rs.drop k).length := by rw [List.length_drop]; omega
 rw [List.take_succ_eq_append_getElem hd, List.getElem_drop, hcc, List.append_assoc]
 rfl

set_option maxRecDepth 20000 in
set_option maxHeartbeats 4000000 in
theorem delF_any (w : World) (base : Nat) (v : Value) (rs : List Cw) (k : Nat) (z : Int) (B : Nat) (hrow : OwnR 50 base w v rs) (hk : k ≤ rs.length) (hk0 : 0 < k) (h1 : ∀ c ∈ rs.take k, c.n ≤ z) (h2 : ∀ c ∈ rs.drop k, z < c.n) (hB : w.heap[B]? = some (.cells #[.int .i64 z] 3 (0, 0))) (hs : ∀ c ∈ rs, ∃ a n k, c.v = .slice a n k) (hlen : rs.length ≤ 1048576) :
  Calls Tryz.prog 133 #[v, .func (.func 134) #[] #[.pointer (some ⟨B, 0, none⟩)]] w fun E w' => ∃ v', E = .returned v' ∧ OwnR 50 base w' v' (rs.drop k) ∧ Out (fun g => v.ownBlock = some g) w w' ∧ v'.ownBlock = v.ownBlock ∧ ∃ a n k, v' = .slice a n k := by
 obtain ⟨L, hL⟩ : ∃ L, L = rs.length := ⟨_, rfl⟩
 obtain ⟨c0, hc0⟩ : ∃ c, rs[0]? = some c := ⟨rs[0]'(by omega), by rw [List.getElem?_eq_getElem]⟩
 have HI := hide (idxF_any w v rs c0 z B hrow.row hc0 (h1 c0 (List.mem_of_getElem? (show (rs.take k)[0]? = some c0 by rw [List.getElem?_take_of_lt hk0]; exact hc0))) hB)
 obtain ⟨g, cap, hv, hcap, hcm⟩ : ∃ g cap, v = .slice (some ⟨g, 0, none⟩) L cap ∧ L ≤ cap ∧ cap ≤ maxLen := by
  rcases hrow.2 with ⟨_, h⟩ | ⟨g, cap, cur, hv, _, hg, hc, hm', hs, _⟩
  ·omega
  ·exact ⟨g, cap, by rw [hL]; exact hv, by rw [hL]; exact hc, hm'⟩
 have hgt := hrow.type (g := g) (by rw [hv]; rfl)
 have hBg : B ≠ g := by
  obtain ⟨cs, e⟩ := hgt
  intro he
  rw [he, e] at hB
  simp only [Option.some.injEq, Obj.cells.injEq] at hB
  exact absurd hB.2.1 (by decide)
 subst hv
 have hob : (Value.slice (some ⟨g, 0, none⟩) L cap).ownBlock = some g := rfl
 have H1 := hide h1
 have H2 := hide h2
 have HS := hide hs
 have HB := hide hB
 have HL := hide hL
 have HR := hide hrow
 have hBw := blk_lt hB
 have hgw : g < w.heap.size := (World.ownsRow.lt hrow g rfl).2
 have hL1 : (1 : Nat) ≤ L := by omega
 rw [← hL] at hk hlen
 clear h1 h2 hs hB hL hrow hc0 hgt hob
 go_enter Tryz.func133, Tryz.ntmps133
 go_wp2_with fail
 refine HI.out.mono ?_
 rintro E w1 ⟨rfl, b1⟩
 have O1 : Hid (Out (fun b => b = g) w w1) := hide (Out.of_below b1)
 have R1 : Hid (OwnR 50 base w1 (.slice (some ⟨g, 0, none⟩) L cap) ((rs.drop k).take 0 ++ rs.drop 0)) := hide (by simpa using HR.out.below b1)
 clear HI b1 HR
 go_wp2
 go_loopw [5, 6] (fun iv jv wr => ∃ (i j : Nat), iv = .int .i64 i ∧ jv = .int .i64 j ∧ Hid (1 ≤ j ∧ j ≤ L ∧ (j ≤ k ∧ i = 0 ∨ k ≤ j ∧ j = k + i)) ∧ Hid (OwnR 50 base wr (.slice (some ⟨g, 0, none⟩) L cap) ((rs.drop k).take i ++ rs.drop i)) ∧ Hid (Out (fun b => b = g) w wr)) (fun _ jv _ => L - (intOf jv).toNat)
 case atStart => exact ⟨0, 1, rfl, rfl, hide ⟨by omega, by omega, .inl ⟨by omega, rfl⟩⟩, R1, O1⟩
 case round =>
  obtain ⟨i, j, rfl, rfl, HJ, RR, OR⟩ := hrel
  clear R1 O1
  obtain ⟨g1, g2, g3⟩ := HJ.out
  have hkiL : k + i ≤ L := by omega
  have hij : i ≤ j := by omega
  have hrl : ((rs.drop k).take i ++ rs.drop i).length = L := by rw [List.length_append, List.length_take, List.length_drop, List.length_drop, ← HL.out]; omega
  by_cases hlt : j < L
  ·obtain ⟨⟨ce, cn, cv, cl⟩, hc⟩ : ∃ c, rs[j]? = some c := ⟨rs[j]'(by have := HL.out; omega), by rw [List.getElem?_eq_getElem]⟩
   have hrj : ((rs.drop k).take i ++ rs.drop i)[j]? = some ⟨ce, cn, cv, cl⟩ := by rw [del_at (by have := HL.out; omega) hij]; exact hc
   obtain ⟨⟨d0, d1, d2⟩, _⟩ := own_atC RR.out hrl j _ hrj
   obtain ⟨ca, cm, ck, hcv⟩ := HS.out _ (List.mem_of_getElem? hc)
   simp only at hcv d0 d1 d2
   obtain ⟨wc, hwc, hwc2, szc, belc, bC, x0, x1, x2⟩ := new_step wr 50 (.int .i64 0) (.int .i64 0) (.slice none 0 0) (.int .i64 ce) (.int .i64 cn) cv
   have hBr : wr.heap[B]? = some (.cells #[.int .i64 z] 3 (0, 0)) := (OR.out.block B hBw hBg).trans HB.out
   have hBr' := (belc.block B (blk_lt hBr)).trans hBr
   have HU := hide (upto_any ce cn cv z B wc hBr')
   have hj0 : (0 : Int) ≤ (j : Int) := by omega
   have hlt' : (j : Int) < L := by omega
   have hwj : IntKind.i64.wrap ((j : Int) + 1) = (j : Int) + 1 := wrap_i64_small _ (by omega) (by omega)
   have HC := hide hc
   have BC := hide bC
   have RC := hide (RR.out.below belc)
   have OC : Hid (Out (fun b => b = g) w wc) := hide (OR.out.trans (Out.of_below (F := fun b => b = g) belc) fun b hb => .inl hb)
   have szr := OR.out.size
   subst hcv
   clear hrj hc bC belc hBr hBr' RR OR
   by_cases hjk : j < k
   ·have hd : decide (cn ≤ z) = true := decide_eq_true (H1.out ⟨ce, cn, .slice ca cm ck, cl⟩ (List.mem_of_getElem? (show (rs.take k)[j]? = some _ by rw [List.getElem?_take_of_lt hjk]; exact HC.out)))
    rw [hd] at HU
    obtain rfl : i = 0 := by omega
    clear hd
    go_wp2_with fail
    refine HU.out.mono ?_
    rintro E wd ⟨rfl, bd⟩
    have RD := hide (RC.out.below bd)
    have OD : Hid (Out (fun b => b = g) w wd) := hide (OC.out.trans (Out.of_below (F := fun b => b = g) bd) fun b hb => .inl hb)
    clear HU bd RC OC
    go_wp2
    go_roundw
    case rel => exact ⟨0, j + 1, rfl, by go_num, hide ⟨by omega, by omega, .inl ⟨by omega, rfl⟩⟩, RD, OD⟩
    case measure => simp [intOf]; omega
   ·obtain rfl : j = k + i := by omega
    have hd : decide (cn ≤ z) = false := decide_eq_false (by
     have := H2.out ⟨ce, cn, .slice ca cm ck, cl⟩ (List.mem_of_getElem? (show (rs.drop k)[i]? = some _ by rw [List.getElem?_drop]; exact HC.out))
     simp only at this
     omega)
    rw [hd] at HU
    clear hd
    go_wp2_with fail
    refine HU.out.mono ?_
    rintro E wd ⟨rfl, bd⟩
    have RD := RC.out.below bd
    obtain ⟨di, hdi⟩ : ∃ c, ((rs.drop k).take i ++ rs.drop i)[i]? = some c := ⟨((rs.drop k).take i ++ rs.drop i)[i]'(by omega), by rw [List.getElem?_eq_getElem]⟩
    obtain ⟨⟨y0, y1, y2⟩, ⟨z0, z1, z2⟩⟩ := own_atC RD hrl i _ hdi
    obtain ⟨W, hW, RW, gW⟩ := own_putC RD hrl i (by omega) ⟨ce, cn, .slice ca cm ck, cl⟩
    simp only at hW
    have hBd := (bd.block wr.heap.size (blk_lt BC.out)).trans BC.out
    have t0 := blk_cell hBd 0 rfl
    have t1 := blk_cell hBd 1 rfl
    have t2 := blk_cell hBd 2 rfl
    simp only [List.getElem_toArray, List.getElem_cons_zero, List.getElem_cons_succ] at t0 t1 t2
    have OD : Out (fun b => b = g) w wd := OC.out.trans (Out.of_below (F := fun b => b = g) bd) fun b hb => .inl hb
    have OW : Hid (Out (fun b => b = g) w W) := hide (OD.trans (Out.of_grown (F := fun b => b = g) gW fun b hb => by simpa using hb.symm) fun b hb => .inl hb)
    rw [del_next HC.out] at RW
    have RWH := hide RW
    have hi0 : (0 : Int) ≤ (i : Int) := by omega
    have hiL : (i : Int) < L := by omega
    have hwi : IntKind.i64.wrap ((i : Int) + 1) = (i : Int) + 1 := wrap_i64_small _ (by omega) (by omega)
    clear HU bd RC OC OD RD RW gW hBd hdi d0 d1 d2 x0 x1 x2 hwc hwc2
    go_wp2
    go_roundw
    case rel => exact ⟨i + 1, k + i + 1, by go_num, by go_num, hide ⟨by omega, by omega, .inr ⟨by omega, by omega⟩⟩, RWH, OW⟩
    case measure => simp [intOf]; omega
  ·have hlt' : ¬ (j : Int) < L := by omega
   obtain rfl : j = L := by omega
   obtain rfl : i = j - k := by omega
   obtain ⟨i, hi⟩ : ∃ i, i = j - k := ⟨_, rfl⟩
   rw [← hi] at RR hkiL hij hrl ⊢
   have hij' : i < j := by omega
   have hrow0 := RR.out
   unfold OwnR at hrow0
   rw [hrl] at hrow0
   have htk : ((rs.drop k).take i ++ rs.drop i).take i = rs.drop k := by
    have hl : ((rs.drop k).take i).length = i := by rw [List.length_take, List.length_drop, ← HL.out]; omega
    rw [List.take_append_of_le_length (by omega), List.take_of_length_le (by omega), List.take_of_length_le (by rw [List.length_drop, ← HL.out]; omega)]
   have own1 : wr.ownsRow base 50 3 (.slice (some ⟨g, 0, none⟩) i cap) i (ccells (rs.drop k)) := by
    rw [← htk, ccells_take]
    exact own_cut hrow0 i (by omega)
   obtain ⟨cur1, hg1, hs1⟩ : ∃ cur, wr.heap[g]? = some (.cells cur 50 (0, 0)) ∧ cur.size = cap * 3 := by
    rcases hrow0.2 with ⟨h, _⟩ | ⟨g', cap', cur, h, _, hg, _, _, hs, _⟩
    ·simp at h
    ·simp only [Value.slice.injEq, Option.some.injEq, Addr.mk.injEq, and_true, true_and] at h
     obtain ⟨rfl, rfl⟩ := h
     exact ⟨cur, hg, hs⟩
   obtain ⟨m, hm⟩ : ∃ m, m = j - i := ⟨_, rfl⟩
   have hzl : (Builtin.zeroCells (Value.agg #[.int .i64 0, .int .i64 0, .slice none 0 0]).cells m).toList.length = m * 3 := by rw [zeroCells_len]; rfl
   obtain ⟨w2, hw2⟩ : ∃ w2, w2 = wr.setCells g (i * 3) (Builtin.zeroCells (Value.agg #[.int .i64 0, .int .i64 0, .slice none 0 0]).cells m).toList := ⟨_, rfl⟩
   have hcl : ∀ ty, (Builtin.clear_ #[22] ty #[.slice (some ⟨g, i * 3, none⟩) m (cap - i)]).run Tryz.prog wr = .ok (.tuple #[]) w2 := fun ty => by
    rw [hw2]
    exact run_clear_rows wr _ _ ty _ Tryz.underlying22 Tryz.zeroCm (zeroCells_one m (by decide)) g (i * 3) (cap - i) (by omega) (fun j hj => by rw [hzl] at hj; rw [blk_cell hg1 _ (Array.getElem?_eq_getElem (by omega : i * 3 + j < cur1.size))]; rfl) (fun j _ => blk_froz hg1 _)
   have htl : (rs.drop k).length = i := by rw [List.length_drop, ← HL.out]; omega
   have R : Hid (OwnR 50 base w2 (.slice (some ⟨g, 0, none⟩) i cap) (rs.drop k)) := hide (by
    unfold OwnR
    rw [htl, hw2]
    exact own_setCells own1 _ (Nat.le_refl _) _)
   have O : Hid (Out (fun b => (Value.slice (some ⟨g, 0, none⟩) j cap).ownBlock = some b) w w2) := hide (by
    rw [hw2]
    refine ((OR.out.mono (G := fun b => (Value.slice (some ⟨g, 0, none⟩) j cap).ownBlock = some b) fun b hb => .inl (by rw [hb]; rfl)).trans (Out.of_grown (F := fun b => (Value.slice (some ⟨g, 0, none⟩) j cap).ownBlock = some b) (setCells_grown g _ (i * 3) wr) fun b hb => hb) fun b hb => .inl hb))
   have hmc : ¬ cap = i := by omega
   have hmL : (i : Int) ≤ j := by omega
   have hLc : (i : Int) ≤ cap := by omega
   have hi0 : (0 : Int) ≤ i := by omega
   rw [hm] at hcl
   clear hw2 hzl hg1 hs1 own1 hrow0 RR OR htk htl hm hrl HJ g1 g3 hi
   go_wp2
   go_ret
   exact ⟨_, rfl, R.out, O.out, rfl, _, _, _, rfl⟩

end Go.Proofs.YtmmfakpphjjjfaaGreat

/- The contract of Copy (commits). -/
namespace Go.Proofs.YtmmfakpphjjjfaaGreat
open Go.RowKit
set_option linter.unusedVariables false

theorem put_one {V : World} {R : Nat} {t : TypeId} {x y z : Value} (hR : V.heap[R]? = some (.cells #[x, y, z] t (0, 0))) (c : Value) :
  ∃ V', V.setCell ⟨R, 2, none⟩ c = V' ∧ V'.heap[R]? = some (.cells #[x, y, c] t (0, 0)) ∧ V.grownBy V' (some R) ∧ V.cell? ⟨R, 2, none⟩ = some z ∧ V.frozen? ⟨R, 2, none⟩ = false :=
 ⟨_, rfl, set_cells hR 2 c, grown_setCell V ⟨R, 2, none⟩ c, blk_cell hR 2 rfl, blk_froz hR 2⟩

set_option maxHeartbeats 400000 in
theorem ccopy_any (e n : Int) (v : Value) (l : List Bm.Ov) (w : World) (h : IsO w v l) (hl : l.length * 40 ≤ 140737488351232) :
  Calls Tryz.prog 81 #[cmv e n v] w fun E w' => ∃ v', E = .returned (cmv e n v') ∧ OwnO 65 w.heap.size w' v' l ∧ Below w.heap.size w w' := by
 unfold cmv
 obtain ⟨w1, hw1, sz1, bel1, hB⟩ := blk_step w #[.int .i64 e, .int .i64 n, v] 50
 obtain ⟨w2, hw2, sz2, bel2, hR⟩ := blk_step w1 #[.int .i64 0, .int .i64 0, .slice none 0 0] 50
 rw [sz1] at hR
 have hB2 := (bel2.block w.heap.size (by omega)).trans hB
 have bel02 : Below w.heap.size w w2 := bel1.trans (bel2.mono (by omega))
 have h2 := h.below bel02
 obtain ⟨ao, cap, rfl, _, _⟩ := h.shape
 have c2 := blk_cell hB2 2 rfl
 have HB := hide hB2
 have HR := hide hR
 clear hB hB2 hR bel1 bel2
 go_enter Tryz.func81, Tryz.ntmps81
 go_wp2_with fail
 refine (cloneO_any _ l _ h2 hl).mono ?_
 rintro E w3 ⟨v3, rfl, own3, bel3⟩
 have sz3 := bel3.size
 have hB3 := (bel3.block w.heap.size (by omega)).trans HB.out
 have hR3 := (bel3.block (w.heap.size + 1) (by omega)).trans HR.out
 have bel03 := bel02.trans (bel3.mono (by omega))
 obtain ⟨ah, ch, hvl, _, _⟩ := own3.is.shape
 subst hvl
 obtain ⟨X, hX, cX, gX, q2, q3⟩ := put_one hB3 (.slice ah l.length ch)
 have szX := gX.size
 have hRX := (gX.block (w.heap.size + 1) (by omega) (by simp)).trans hR3
 have ownX := own3.keptg gX (by omega)
 have bel0X := below_put bel03 gX (Nat.le_refl _) (by omega)
 have d0 := blk_cell cX 0 rfl
 have d1 := blk_cell cX 1 rfl
 have d2 := blk_cell cX 2 rfl
 obtain ⟨V', hV', bV', gV', ⟨a0, a1, a2⟩, ⟨f0, f1, f2⟩, ⟨z0, z1, z2⟩⟩ := res_step hRX (.int .i64 e) (.int .i64 n) (.slice ah l.length ch)
 have belV' := below_put bel0X gV' (by omega) (by omega)
 have ownV' := (ownX.keptg gV' (by omega)).rebase (base' := w.heap.size) (by omega)
 clear HB HR hB3 hR3 cX gX hRX bV' gV' own3 ownX bel03 bel0X bel3 c2
 go_wp2
 refine bodyPost_ret (v := .agg #[.int .i64 e, .int .i64 n, .slice ah l.length ch]) (by simp [results, Tryz.results81, go_sem, z0, z1, z2]) rfl ?_
 exact ⟨_, rfl, ownV', belV'⟩

end Go.Proofs.YtmmfakpphjjjfaaGreat
