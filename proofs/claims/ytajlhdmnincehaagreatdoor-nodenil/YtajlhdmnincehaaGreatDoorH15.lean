/- Texts of one layer, one behind the other. -/
import Derived.Test.YtajlhdmnincehaaGreatDoorH11
import Derived.Test.YtajlhdmnincehaaGreatDoorZIter
import Derived.Test.YtajlhdmnincehaaGreatDoorZRg
import Derived.Test.YtajlhdmnincehaaGreatDoorH6
import Derived.BigQuiet
import Derived.Test.YtajlhdmnincehaaGreatDoorH1
import Derived.Deep.RegionLaw
import Derived.Test.YtajlhdmnincehaaGreatDoorH3
import Derived.Deep.RegionHeld3
/- The program's table: what is there as ops, by rising key (ops), All and Live. -/
namespace Go.Proofs.YtajlhdmnincehaaGreatDoor
open Go.RowKit Go.Maps Go.Shelf
open Bm (Ov)
set_option linter.unusedVariables false
attribute [local go_sem] Oper.semAt_some









end Go.Proofs.YtajlhdmnincehaaGreatDoor

/- What the iterators of All and Live yield. -/
namespace Go.Proofs.YtajlhdmnincehaaGreatDoor
open Go.RowKit Go.Maps Go.Shelf
open Bm (Ov)
set_option linter.unusedVariables false
attribute [local go_sem] Oper.semAt_some
















end Go.Proofs.YtajlhdmnincehaaGreatDoor

/- The statement's own: what a table goes over, as a list (all). -/
namespace Go.Proofs.YtajlhdmnincehaaGreatDoor
open Go.RowKit Go.Maps Go.Shelf
open Bm (Ov)
set_option linter.unusedVariables false
attribute [local go_sem] Oper.semAt_some









end Go.Proofs.YtajlhdmnincehaaGreatDoor

/- slices.Collect of what a table goes over. -/
namespace Go.Proofs.YtajlhdmnincehaaGreatDoor
open Go.RowKit Go.Maps Go.Shelf
open Bm (Ov)
set_option linter.unusedVariables false
attribute [local go_sem] Oper.semAt_some



end Go.Proofs.YtajlhdmnincehaaGreatDoor

/- The program's log: its small methods. -/
namespace Go.Proofs.YtajlhdmnincehaaGreatDoor
open Go.RowKit
set_option linter.unusedVariables false

theorem lend_any (b o : Nat) (w : World) (vc : Value) (rs : List Cw) (hc : w.cell? ⟨b, o, none⟩ = some vc) (h : RowC w vc rs) :
    Calls Tryz.prog 147 #[.pointer (some ⟨b, o, none⟩)] w fun E w' => E = .returned (.int .i64 rs.length) ∧ w = w' := by
  obtain ⟨ao, cap, rfl, _, _⟩ := h.shape
  clear h
  go_enter Tryz.func147, Tryz.ntmps147
  go_wp2
  go_ret
  exact ⟨rfl, rfl⟩

theorem last_at {l : List Cm.Cv} {k : Nat} {c : Cm.Cv} (hk : l[k]? = some c) (hl : l.length = k + 1) (e : Int) : Cm.lastE e l = c.e := by
  rcases List.eq_nil_or_concat l with rfl | ⟨r, d, rfl⟩
  · simp at hk
  · rw [List.concat_eq_append] at hk hl ⊢
    rw [List.length_append, List.length_singleton] at hl
    obtain rfl : r.length = k := by omega
    rw [(Cm.last_snoc r d e 0).1]
    simp at hk
    rw [hk]

set_option maxHeartbeats 1000000 in
theorem lepoch_any (b o : Nat) (w : World) (vc : Value) (rs : List Cw) (hc : w.cell? ⟨b, o, none⟩ = some vc) (h : RowC w vc rs) (hl : rs.length ≤ 1048576) :
    Calls Tryz.prog 156 #[.pointer (some ⟨b, o, none⟩)] w fun E w' => E = .returned (.int .i64 (Cm.lastE 0 (cvs rs))) ∧ ∃ m, w' = w.drewN m := by
  have HE := hide (lend_any b o w vc rs hc h)
  by_cases h0 : rs.length = 0
  · have hr : rs = [] := List.eq_nil_of_length_eq_zero h0
    subst hr
    clear h
    go_enter Tryz.func156, Tryz.ntmps156
    go_wp2_with fail
    refine HE.out.mono ?_
    rintro E w1 ⟨rfl, rfl⟩
    go_wp2
    go_ret
    exact ⟨rfl, 0, rfl⟩
  · obtain ⟨k, hk⟩ : ∃ k, rs.length = k + 1 := ⟨rs.length - 1, by omega⟩
    have HEq : Hid (∀ n, Calls Tryz.prog 147 #[.pointer (some ⟨b, o, none⟩)] (w.drewN n) fun E w' => E = .returned (.int .i64 rs.length) ∧ ∃ m, w' = (w.drewN n).drewN m) := hide fun n =>
      (lend_any b o (w.drewN n) vc rs hc (h.below (below_drewN (Below.refl _ _) n))).mono fun E w' h => ⟨h.1, 0, by rw [← h.2]; rfl⟩
    obtain ⟨g, off, cap, rfl, _, _, _, hcell⟩ := h.full (by omega)
    obtain ⟨c, hck⟩ : ∃ c, rs[k]? = some c := ⟨rs[k]'(by omega), by rw [List.getElem?_eq_getElem]⟩
    obtain ⟨c0, _, _⟩ := hcell k c hck
    have hL : Cm.lastE 0 (cvs rs) = c.e := last_at (k := k) (c := c.c) (by unfold cvs; rw [List.getElem?_map, hck]; rfl) (by unfold cvs; rw [List.length_map]; exact hk) 0
    rw [hL]
    rw [hk] at HE HEq hc
    have hne : (((k + 1 : Nat) : Int) == 0) = false := by simp; omega
    have hw : IntKind.i64.wrap (((k + 1 : Nat) : Int) - 1) = (k : Int) := by rw [wrap_i64_small _ (by omega) (by omega)]; omega
    have hk1 : (k : Int) < ((k + 1 : Nat) : Int) := by omega
    clear h hcell hck hL
    go_enter Tryz.func156, Tryz.ntmps156
    go_wp2_with fail
    refine HE.out.mono ?_
    rintro E w1 ⟨rfl, rfl⟩
    go_wp2
    go_quiet ((go_at_call 147; refine Calls.quiet_of (HEq.out _)))
    go_wp2
    go_ret
    exact ⟨rfl, _, rfl⟩

theorem lplace_any (b o : Nat) (w : World) (ve : Value) (l : List Cm.Cv) (n : Nat) (hn : n ≤ l.length) (hl : l.length ≤ 1048576) (hc : w.cell? ⟨b, o + 1, none⟩ = some ve) (h : Is .i64 w ve (ends l)) :
    Calls Tryz.prog 256 #[.pointer (some ⟨b, o, none⟩), .int .i64 n] w fun E w' => E = .returned (.int .i64 (Wl.lgb (l.take n)).length) ∧ w = w' := by
  by_cases h0 : n = 0
  · subst h0
    clear h
    go_enter Tryz.func256, Tryz.ntmps256
    go_wp2
    go_ret
    exact ⟨rfl, rfl⟩
  · obtain ⟨k, rfl⟩ : ∃ k, n = k + 1 := ⟨n - 1, by omega⟩
    obtain ⟨g, off, cap, rfl, _, _, _, hcell⟩ := h.full (by rw [ends_len]; omega)
    have c0 := hcell k (by rw [ends_len]; omega)
    rw [ends_at l k (by omega)] at c0
    rw [ends_len] at hc
    have hne : (((k + 1 : Nat) : Int) == 0) = false := by simp; omega
    have hw : IntKind.i64.wrap (((k + 1 : Nat) : Int) - 1) = (k : Int) := by rw [wrap_i64_small _ (by omega) (by omega)]; omega
    have hk1 : (k : Int) < (l.length : Int) := by omega
    generalize ((Wl.lgb (List.take (k + 1) l)).length : Int) = z at *
    clear h hcell
    go_enter Tryz.func256, Tryz.ntmps256
    go_wp2
    go_ret
    exact ⟨rfl, rfl⟩

end Go.Proofs.YtajlhdmnincehaaGreatDoor

/- Whether a commit follows the program's log; isMade, refuses and heed of a wal. -/
namespace Go.Proofs.YtajlhdmnincehaaGreatDoor
open Go.RowKit
set_option linter.unusedVariables false

/-- Does a commit follow a log? -/
def tk (l : List Cm.Cv) (c : Cm.Cv) : Bool := decide (Cm.chk c.e c.n c.l = 0 ∧ ¬ (c.n - 1 ≠ l.length ∨ c.e < Cm.lastE 0 l))

theorem tk_fol (l : List Cm.Cv) (c : Cm.Cv) : tk l c = (((Cm.fol (Cm.lastE 0 l) l.length 0 [c]).1 == 0) && ((Cm.fol (Cm.lastE 0 l) l.length 0 [c]).2 == 0)) := by
  unfold tk
  by_cases h1 : Cm.chk c.e c.n c.l = 0
  · by_cases h2 : c.n - 1 ≠ l.length ∨ c.e < Cm.lastE 0 l
    · rw [Cm.fol_off h1 h2, decide_eq_false (fun h => h.2 h2)]
      rfl
    · rw [Cm.fol_on h1 h2, decide_eq_true ⟨h1, h2⟩]
      rfl
  · rw [Cm.fol_bad h1, decide_eq_false (fun h => h1 h.1)]
    simp [h1]

theorem tk_good {l : List Cm.Cv} (h : Cm.Good 0 0 l) (c : Cm.Cv) : tk l c = true ↔ Cm.Good 0 0 (l ++ [c]) := by
  unfold tk
  rw [decide_eq_true_iff, Wl.good_snoc h]

theorem Tryz.eqlG (a b c d : Int) (w : World) : (binOp .eql 136 (.agg #[.int .i64 a, .int .i64 b]) (.agg #[.int .i64 c, .int .i64 d])).run Tryz.prog w = .ok (.bool ((a == c) && (b == d))) w := by
  rw [run_eql_struct, run_equalIn_agg w 9999 136 _ _ (by kernel_rfl) (by kernel_rfl)]
  unfold Program.fieldsOf
  rw [Tryz.underlying136]
  simp [Op.eqFields, go_sem, Tryz.underlying39, Tryz.underlying3]
  by_cases h1 : a = c <;> by_cases h2 : b = d <;> simp [h1, h2]

theorem made2_any (p q : Nat) (w : World) (cs : Array Value) (u1 u2 u3 : Value) (hB : w.heap[p]? = some (.cells #[.pointer (some ⟨q, 0, none⟩), u1, u2, u3] 192 (0, 0))) :
    Calls Tryz.prog 146 #[.pointer (some ⟨p, 0, none⟩)] w fun E w' => E = .returned (.bool true) ∧ w = w' := by
  have c0 := blk_cell hB 0 rfl
  clear hB
  go_enter Tryz.func146, Tryz.ntmps146
  go_wp2
  go_ret
  exact ⟨rfl, rfl⟩

end Go.Proofs.YtajlhdmnincehaaGreatDoor

/- The program's log grows by a commit. -/
namespace Go.Proofs.YtajlhdmnincehaaGreatDoor
open Go.RowKit
set_option linter.unusedVariables false

theorem ccells_g : ∀ (r : List Cw), ccells r = gcells ccell r
  | [] => rfl
  | c :: r => by rw [ccells, gcells, ccells_g r]

theorem ownR_g {e base : Nat} {w : World} {v : Value} {r : List Cw} : OwnR e base w v r ↔ OwnG ccell 3 e base w v r := by
  unfold OwnR OwnG
  rw [ccells_g]

theorem ccell_len (c : Cw) : (ccell c).length = 3 := rfl

theorem Tryz.info3 : (Tryz.prog.info? 3).map (fun i => (i.zero, i.size, i.bytes)) = some (some (.int .i64 0), 1, 8) := by kernel_rfl

section
variable {base b o : Nat} {t : TypeId} {cs : Array Value} {W : World} {vc ve : Value} {rs : List Cw} {zs : List Int}

/-- One more end. -/
theorem ends_tail (hB : W.heap[b]? = some (.cells cs t (0, 0))) (ho : cs[o + 1]? = some ve) (h1 : t ≠ 93) (h2 : t ≠ 3) (h3 : t ≠ 88) (h : Lr base W vc ve rs zs) (hl : zs.length ≤ 1048576) (hbase : base ≤ W.heap.size) (x : Int) (hx : (Lit.int .i64 x).wf = true) :
    ∃ V, W.drew.alloc (.cells #[.int .i64 x] 3) = V ∧ V.cell? ⟨b, o + 1, none⟩ = some ve ∧ Hid (∀ ty, ∃ v' w', (Builtin.append_ #[188, 188] ty #[ve, .slice (some ⟨W.heap.size, 0, none⟩) 1 1]).run Tryz.prog V = .ok v' w' ∧
      ((∃ U, w'.setCell ⟨b, o + 1, none⟩ v' = U ∧ U.heap[b]? = some (.cells (cs.setIfInBounds (o + 1) v') t (0, 0)) ∧ Lr base U vc v' rs (zs ++ [x]) ∧ Out (fun g => g = b ∨ ve.ownBlock = some g) W U ∧ (v'.ownBlock = ve.ownBlock ∨ ∃ g, v'.ownBlock = some g ∧ W.heap.size ≤ g)) ∧ w'.cell? ⟨b, o + 1, none⟩ = some ve ∧ w'.frozen? ⟨b, o + 1, none⟩ = false ∧ ∃ a n c, v' = .slice a n c)) := by
  obtain ⟨V, hV, szV, belV, own⟩ := own_step .i64 3 W.drew #[.int .i64 x] 1 [x] rfl rfl (by simp [maxLen]) (by simpa using hx)
  have bel : Below W.heap.size W V := (below_drewN (Below.refl W.heap.size W) 1).trans belV
  have hbw : b < W.heap.size := blk_lt hB
  have hBV : V.heap[b]? = some (.cells cs t (0, 0)) := (bel.block b hbw).trans hB
  refine ⟨V, hV, blk_cell hBV (o + 1) ho, hide fun ty => ?_⟩
  have hV' := h.below bel
  have szV' : V.heap.size = W.heap.size + 1 := szV
  obtain ⟨v', w', hr, hown, hg, hat⟩ := run_append_is_at (P := Tryz.prog) (w := V) 188 ty .i64 3 base 8 Tryz.underlying188 Tryz.info3 (by decide) ve zs hV'.en _ [x] own.is (by simp; omega) (by omega)
  have hne : ∀ g, ve.ownBlock = some g → g ≠ b := fun g hg e => h.ne hB h1 h2 h3 (.inr (.inl (e ▸ hg)))
  have hBw : w'.heap[b]? = some (.cells cs t (0, 0)) := (hg.block b (by omega) fun e => hne b e.symm rfl).trans hBV
  obtain ⟨U, hU⟩ : ∃ U, w'.setCell ⟨b, o + 1, none⟩ v' = U := ⟨_, rfl⟩
  have oU : Out (fun g => g = b) w' U := by
    rw [← hU]
    exact Out.of_grown (grown_setCell w' ⟨b, o + 1, none⟩ _) fun g hg => by simp at hg; exact hg.symm
  have oA : Out (fun g => g = b ∨ ve.ownBlock = some g) W w' := (Out.of_below (F := fun g => g = b ∨ ve.ownBlock = some g) bel).trans (Out.of_grown (F := fun g => g = b ∨ ve.ownBlock = some g) hg fun g hg => .inr hg) fun g hg => .inl hg
  have oW : Out (fun g => g = b ∨ ve.ownBlock = some g) W U := oA.trans oU fun g hg => .inl (.inl hg)
  have nvc : ∀ g, vc.ownBlock = some g → ve.ownBlock ≠ some g := fun g hg he => by
    obtain ⟨c1, e1⟩ := h.row.type hg
    obtain ⟨c2, e2⟩ := h.en.type he
    rw [e1] at e2
    simp only [Option.some.injEq, Obj.cells.injEq] at e2
    exact absurd e2.2.1 (by decide)
  have nop : ∀ c ∈ rs, ∀ g, c.v.ownBlock = some g → ve.ownBlock ≠ some g := fun c hc g hg he => by
    obtain ⟨c1, e1⟩ := (h.cop c hc).type hg
    obtain ⟨c2, e2⟩ := h.en.type he
    rw [e1] at e2
    simp only [Option.some.injEq, Obj.cells.injEq] at e2
    exact absurd e2.2.1 (by decide)
  refine ⟨v', w', hr, ⟨U, hU, by rw [← hU, set_cells hBw], ⟨?_, ?_, ?_⟩, oW, ?_⟩, blk_cell hBw (o + 1) ho, blk_froz hBw (o + 1), hown.is.form⟩
  · refine row_agree h.row fun g hg => oW.block g (World.ownsRow.lt h.row g hg).2 fun e => ?_
    rcases e with e | e
    · exact h.ne hB h1 h2 h3 (.inl (e ▸ hg))
    · exact nvc g hg e
  · intro c hc
    refine row_agree (h.cop c hc) fun g hg => oW.block g ((h.cop c hc).block g hg).2 fun e => ?_
    rcases e with e | e
    · exact h.ne hB h1 h2 h3 (.inr (.inr ⟨c, hc, e ▸ hg⟩))
    · exact nop c hc g hg e
  · refine hown.agree fun g hg => oU.block g (hown.block g hg).2 fun e => ?_
    obtain ⟨c1, e1⟩ := hown.type hg
    rw [e, hBw] at e1
    simp only [Option.some.injEq, Obj.cells.injEq] at e1
    exact h2 e1.2.1
  · rcases hat with e | e
    · exact .inl e
    · exact .inr ⟨_, e, by omega⟩

/-- One more commit. -/
theorem coms_tail (hB : W.heap[b]? = some (.cells cs t (0, 0))) (ho : cs[o]? = some vc) (h1 : t ≠ 93) (h2 : t ≠ 3) (h3 : t ≠ 88) (h : Lr base W vc ve rs zs) (hl : rs.length ≤ 1048576) (hbase : base ≤ W.heap.size) (c : Cw) (hc : OwnO 88 base W c.v c.l) :
    ∃ V, W.drew.alloc (.cells #[.int .i64 c.e, .int .i64 c.n, c.v] 93) = V ∧ V.cell? ⟨b, o, none⟩ = some vc ∧ Hid (∀ ty, ∃ v' w', (Builtin.append_ #[25, 25] ty #[vc, .slice (some ⟨W.heap.size, 0, none⟩) 1 1]).run Tryz.prog V = .ok v' w' ∧
      ((∃ U, w'.setCell ⟨b, o, none⟩ v' = U ∧ U.heap[b]? = some (.cells (cs.setIfInBounds o v') t (0, 0)) ∧ Lr base U v' ve (rs ++ [c]) zs ∧ Out (fun g => g = b ∨ vc.ownBlock = some g) W U ∧ (v'.ownBlock = vc.ownBlock ∨ ∃ g, v'.ownBlock = some g ∧ W.heap.size ≤ g)) ∧ w'.cell? ⟨b, o, none⟩ = some vc ∧ w'.frozen? ⟨b, o, none⟩ = false ∧ ∃ a n c, v' = .slice a n c)) := by
  obtain ⟨V, hV, szV, belV, own⟩ := rows_step ccell 3 ccell_len 93 W.drew #[.int .i64 c.e, .int .i64 c.n, c.v] 1 [c] rfl rfl (by simp [maxLen])
  have bel : Below W.heap.size W V := (below_drewN (Below.refl W.heap.size W) 1).trans belV
  have hbw : b < W.heap.size := blk_lt hB
  have hBV : V.heap[b]? = some (.cells cs t (0, 0)) := (bel.block b hbw).trans hB
  refine ⟨V, hV, blk_cell hBV o ho, hide fun ty => ?_⟩
  have hV' := h.below bel
  have szV' : V.heap.size = W.heap.size + 1 := szV
  obtain ⟨v', w', hr, hown, hg, hat⟩ := run_append_rows_at (P := Tryz.prog) (w := V) 25 ty ccell 3 40 ccell_len (by decide) (by decide) (.agg #[.int .i64 0, .int .i64 0, .slice none 0 0]) rfl 93 base Tryz.underlying25 Tryz.info93 vc rs (ownR_g.1 hV'.row) _ [c] own.row (by
    rw [← ccells_g]
    exact ccells_cell [c] fun d hd => by rw [List.mem_singleton.1 hd]; exact hc.is.one) (by simp; omega) (by omega)
  have hne : ∀ g, vc.ownBlock = some g → g ≠ b := fun g hg e => h.ne hB h1 h2 h3 (.inl (e ▸ hg))
  have hBw : w'.heap[b]? = some (.cells cs t (0, 0)) := (hg.block b (by omega) fun e => hne b e.symm rfl).trans hBV
  obtain ⟨U, hU⟩ : ∃ U, w'.setCell ⟨b, o, none⟩ v' = U := ⟨_, rfl⟩
  have oU : Out (fun g => g = b) w' U := by
    rw [← hU]
    exact Out.of_grown (grown_setCell w' ⟨b, o, none⟩ _) fun g hg => by simp at hg; exact hg.symm
  have oA : Out (fun g => g = b ∨ vc.ownBlock = some g) W w' := (Out.of_below (F := fun g => g = b ∨ vc.ownBlock = some g) bel).trans (Out.of_grown (F := fun g => g = b ∨ vc.ownBlock = some g) hg fun g hg => .inr hg) fun g hg => .inl hg
  have oW : Out (fun g => g = b ∨ vc.ownBlock = some g) W U := oA.trans oU fun g hg => .inl (.inl hg)
  have nve : ∀ g, ve.ownBlock = some g → vc.ownBlock ≠ some g := fun g hg he => by
    obtain ⟨c1, e1⟩ := h.en.type hg
    obtain ⟨c2, e2⟩ := h.row.type he
    rw [e1] at e2
    simp only [Option.some.injEq, Obj.cells.injEq] at e2
    exact absurd e2.2.1 (by decide)
  have opb : ∀ d : Cw, OwnO 88 base W d.v d.l → OwnO 88 base U d.v d.l := fun d hd => by
    refine row_agree hd fun g hg => oW.block g (OwnO.block hd g hg).2 fun e => ?_
    obtain ⟨c1, e1⟩ := hd.type hg
    rcases e with e | e
    · rw [e, hB] at e1
      simp only [Option.some.injEq, Obj.cells.injEq] at e1
      exact h3 e1.2.1
    · obtain ⟨c2, e2⟩ := h.row.type e
      rw [e1] at e2
      simp only [Option.some.injEq, Obj.cells.injEq] at e2
      exact absurd e2.2.1 (by decide)
  obtain ⟨xa, xc, hv', _⟩ := hown.row.shape
  refine ⟨v', w', hr, ⟨U, hU, by rw [← hU, set_cells hBw], ⟨?_, ?_, ?_⟩, oW, ?_⟩, blk_cell hBw o ho, blk_froz hBw o, xa, _, xc, hv'⟩
  · refine ownR_g.2 (hown.agree fun g hg => oU.block g (hown.lt g hg).2 fun e => ?_)
    obtain ⟨c1, e1⟩ := hown.type hg
    rw [e, hBw] at e1
    simp only [Option.some.injEq, Obj.cells.injEq] at e1
    exact h1 e1.2.1
  · intro d hd
    rcases List.mem_append.1 hd with hd | hd
    · exact opb d (h.cop d hd)
    · rw [List.mem_singleton.1 hd]
      exact opb c hc
  · refine h.en.agree fun g hg => oW.block g (h.en.block g hg).2 fun e => ?_
    rcases e with e | e
    · exact h.ne hB h1 h2 h3 (.inr (.inl (e ▸ hg)))
    · exact nve g hg e
  · rcases hat with e | e
    · exact .inl e
    · exact .inr ⟨_, e, by omega⟩

end

end Go.Proofs.YtajlhdmnincehaaGreatDoor

/- Reading a log out of bytes, step by step: mathematics. -/
namespace Go.Proofs.YtajlhdmnincehaaGreatDoor
set_option linter.unusedVariables false

/-- Read so far. -/
def Rdl (bs : List Int) (l : List Cm.Cv) : Prop := Cm.Good 0 0 l ∧ Wl.lgb l <+: bs










end Go.Proofs.YtajlhdmnincehaaGreatDoor

/- Whether a commit follows the program's log; the log grows by one. -/
namespace Go.Proofs.YtajlhdmnincehaaGreatDoor
open Go.RowKit
set_option linter.unusedVariables false

theorem Tryz.enters147 : ∀ args w, (callFunc 147 args).run Tryz.prog w = .ok (.enter 147 args) w := enters_of Tryz.func147 (by kernel_rfl) rfl
theorem Tryz.enters256 : ∀ args w, (callFunc 256 args).run Tryz.prog w = .ok (.enter 256 args) w := enters_of Tryz.func256 (by kernel_rfl) rfl

set_option maxRecDepth 20000 in
set_option maxHeartbeats 2000000 in
theorem takes_any (b o : Nat) (w : World) (vc : Value) (rs : List Cw) (hc : w.cell? ⟨b, o, none⟩ = some vc) (h : RowC w vc rs) (hl : rs.length ≤ 1048576) (c : Cw) (hi : IsO w c.v c.l) (he : In64 c.e) (hn : In64 c.n) (hf : FitO c.l) (hlo : c.l.length * 40 ≤ 140737488351232) :
    Calls Tryz.prog 220 #[.pointer (some ⟨b, o, none⟩), cmv c.e c.n c.v] w fun E w' => E = .returned (.bool (tk (cvs rs) c.c)) ∧ Below w.heap.size w w' := by
  obtain ⟨ao, cap, hv, _, _⟩ := hi.shape
  obtain ⟨w1, hw1, sz1, bel1, hB⟩ := blk_step w #[.int .i64 c.e, .int .i64 c.n, c.v] 93
  have c0 : w1.cell? ⟨w.heap.size, 0, none⟩ = some (.int .i64 c.e) := blk_cell hB 0 rfl
  have c1 : w1.cell? ⟨w.heap.size, 1, none⟩ = some (.int .i64 c.n) := blk_cell hB 1 rfl
  have c2 : w1.cell? ⟨w.heap.size, 2, none⟩ = some c.v := blk_cell hB 2 rfl
  have hbw : b < w.heap.size := World.block_lt_of_cell? _ _ hc
  have hK : ∀ W, Below w1.heap.size w1 W → Below w.heap.size w W := fun W hb => bel1.trans (hb.mono bel1.size)
  have hS : ∀ W, Below w1.heap.size w1 W → W.cell? ⟨w.heap.size, 0, none⟩ = some (.int .i64 c.e) ∧ W.cell? ⟨w.heap.size, 1, none⟩ = some (.int .i64 c.n) ∧ W.cell? ⟨w.heap.size, 2, none⟩ = some c.v := fun W hb =>
    ⟨(hb.cell (p := ⟨w.heap.size, 0, none⟩) (show w.heap.size < w1.heap.size by omega)).trans c0, (hb.cell (p := ⟨w.heap.size, 1, none⟩) (show w.heap.size < w1.heap.size by omega)).trans c1, (hb.cell (p := ⟨w.heap.size, 2, none⟩) (show w.heap.size < w1.heap.size by omega)).trans c2⟩
  have HE : Hid (∀ W, Below w1.heap.size w1 W → Calls Tryz.prog 156 #[.pointer (some ⟨b, o, none⟩)] W fun E w' => E = .returned (.int .i64 (Cm.lastE 0 (cvs rs))) ∧ Below W.heap.size W w' ∧ Below w1.heap.size w1 w' ∧ w'.cell? ⟨w.heap.size, 0, none⟩ = some (.int .i64 c.e) ∧ w'.cell? ⟨w.heap.size, 1, none⟩ = some (.int .i64 c.n) ∧ w'.cell? ⟨w.heap.size, 2, none⟩ = some c.v) := hide fun W hb => by
    refine (lepoch_any b o W vc rs (((hK W hb).cell (p := ⟨b, o, none⟩) hbw).trans hc) (h.below (hK W hb)) hl).mono ?_
    rintro E w' ⟨rfl, m, rfl⟩
    exact ⟨rfl, below_drewN (Below.refl _ _) m, below_drewN hb m, hS _ (below_drewN hb m)⟩
  have HN : Hid (∀ W, Below w1.heap.size w1 W → Calls Tryz.prog 147 #[.pointer (some ⟨b, o, none⟩)] W fun E w' => E = .returned (.int .i64 rs.length) ∧ W = w') := hide fun W hb =>
    lend_any b o W vc rs (((hK W hb).cell (p := ⟨b, o, none⟩) hbw).trans hc) (h.below (hK W hb))
  have hcl : (cvs rs).length = rs.length := cvs_length rs
  obtain ⟨fe, fp, hfol⟩ : ∃ fe fp, Cm.fol (Cm.lastE 0 (cvs rs)) rs.length 0 [c.c] = (fe, fp) := ⟨_, _, rfl⟩
  have HT : Hid (tk (cvs rs) c.c = ((fe == 0) && (fp == 0))) := hide (by rw [tk_fol, hcl, hfol])
  have HF : Hid (∀ W v, Below w1.heap.size w1 W → RowC W v [c] → Calls Tryz.prog 95 #[.int .i64 (Cm.lastE 0 (cvs rs)), .int .i64 rs.length, v] W fun E w' => E = .returned (.agg #[.int .i64 fe, .int .i64 fp]) ∧ Below w1.heap.size w1 w' ∧ w'.cell? ⟨w.heap.size, 0, none⟩ = some (.int .i64 c.e) ∧ w'.cell? ⟨w.heap.size, 1, none⟩ = some (.int .i64 c.n) ∧ w'.cell? ⟨w.heap.size, 2, none⟩ = some c.v) := hide fun W v hb hr => by
    have hx := cfol_any (Cm.lastE 0 (cvs rs)) rs.length v [c] W ⟨hr, fun d hd => by rw [List.mem_singleton.1 hd]; exact ⟨hi.below (hK W hb), he, hn⟩⟩ (fun d hd => by rw [List.mem_singleton.1 hd]; exact ⟨hf, hlo⟩) (by simp)
    rw [show cvs [c] = [c.c] from rfl, hfol] at hx
    refine hx.mono ?_
    rintro E w' ⟨rfl, hb'⟩
    have hb2 := hb.trans (hb'.mono hb.size)
    exact ⟨rfl, hb2, hS _ hb2⟩
  have hrow : Hid (∀ W, ∃ V, W.alloc (.cells #[.int .i64 c.e, .int .i64 c.n, c.v] 93) = V ∧ Below W.heap.size W V ∧ RowC V (.slice (some ⟨W.heap.size, 0, none⟩) 1 1) [c]) := hide fun W => by
    obtain ⟨V, hV, _, bV, oV⟩ := coms_step 93 W #[.int .i64 c.e, .int .i64 c.n, c.v] 1 [c] rfl rfl (by simp [maxLen])
    exact ⟨V, hV, bV, oV.row⟩
  obtain ⟨wA, hwA, belA, rowA⟩ := hrow.out w1.drew
  have b1A : Below w1.heap.size w1 wA := (Below.refl w1.heap.size w1).drew.trans belA
  obtain ⟨a0, a1, a2⟩ := hS wA b1A
  have HS := hide hS
  have RA : Hid (RowC wA (.slice (some ⟨w.heap.size + 1, 0, none⟩) 1 1) [c]) := hide (by rw [← sz1]; exact rowA)
  have b11 : Below w1.heap.size w1 w1.drew := (Below.refl w1.heap.size w1).drew
  have q1 := Tryz.eqlG fe fp 0 0
  have q2 := Tryz.guardF .eql
  unfold cmv
  rw [hv] at c2 a2 hw1 hwA HE HF HS hrow ⊢
  generalize Cm.lastE 0 (cvs rs) = ep at *
  rw [HT.out]
  have FIN : Hid (∀ W, Below w1.heap.size w1 W → Below w.heap.size w W) := hide hK
  clear hc h hi he hn hf hlo hB hfol hv hcl hK hS rowA belA
  go_enter Tryz.func220, Tryz.ntmps220
  go_wp2_with fail
  go_region_held3 (fun w' => w'.cell? ⟨w.heap.size, 0, none⟩ = some (.int .i64 c.e) ∧ w'.cell? ⟨w.heap.size, 1, none⟩ = some (.int .i64 c.n) ∧ w'.cell? ⟨w.heap.size, 2, none⟩ = some (.slice ao c.l.length cap)) (first | exact ⟨c0, c1, c2⟩ | exact ⟨a0, a1, a2⟩ | exact ⟨d0, d1, d2⟩ | exact ⟨e0, e1, e2⟩ | exact ⟨i0, i1, i2⟩ | go_keep)
    (first
    | (go_at_call 156; refine (HE.out _ (by first | exact b11 | exact b1A)).mono ?_; rintro E w2 ⟨rfl, bel2, b12, d0, d1, d2⟩; first | (have row2 := hide (RA.out.below bel2)) | skip; obtain ⟨w4, hw4, bel4, row4⟩ := hrow.out w2; have b14 := b12.trans (bel4.mono b12.size); obtain ⟨e0, e1, e2⟩ := HS.out w4 b14; have row4 := hide row4; clear bel2 bel4)
    | (go_at_call 147; refine (HN.out _ (by first | exact b12 | exact b14)).mono ?_; rintro E w3 ⟨rfl, rfl⟩)
    | (go_at_call 95; refine (HF.out _ _ (by first | exact b14 | exact b12) (by first | exact row4.out | exact row2.out)).mono ?_; rintro E w5 ⟨rfl, b15, i0, i1, i2⟩))
  all_goals
    go_wp2
    go_ret
    exact ⟨rfl, FIN.out _ b15⟩

end Go.Proofs.YtajlhdmnincehaaGreatDoor
