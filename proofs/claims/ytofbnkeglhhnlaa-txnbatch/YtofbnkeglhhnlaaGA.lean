/- Texts of one layer, one behind the other. -/
import Derived.Test.YtofbnkeglhhnlaaG1
import Derived.Test.YtofbnkeglhhnlaaG6
import Derived.Test.YtofbnkeglhhnlaaG9
import Derived.Test.YtofbnkeglhhnlaaG3
import Derived.Defers
import Derived.Deep.RegionLaw
/- The document's txn in memory. -/
namespace Go.Proofs.Ytofbnkeglhhnlaa
open Go.RowKit
open Bm (Ov)
set_option linter.unusedVariables false

theorem Tx.eqk (a b : ByteArray) : (a.toList == b.toList) = decide (a = b) := by
  rw [ByteArray.toList_eq, ByteArray.toList_eq]
  by_cases h : a = b
  · subst h; simp
  · have : a.data.toList ≠ b.data.toList := fun e => h (by cases a; cases b; simpa using e)
    rw [decide_eq_false h]
    simpa using fun e : a.data = b.data => this (by rw [e])

theorem put_c {V : World} {R : Nat} {t : TypeId} {cs : Array Value} (hR : V.heap[R]? = some (.cells cs t (0, 0))) (j : Nat) (u : Value) :
    ∃ V', V.setCell ⟨R, j, none⟩ u = V' ∧ V'.heap[R]? = some (.cells (cs.setIfInBounds j u) t (0, 0)) ∧ V.grownBy V' (some R) ∧ V.frozen? ⟨R, j, none⟩ = false :=
  ⟨_, rfl, set_cells hR j u, grown_setCell _ _ _, blk_froz hR j⟩

/-- The document's txn: block p, its ops' row v. -/
structure NxV (p : Nat) (w : World) (s : Tx.St) (v : Value) : Prop where
  blk : w.heap[p]? = some (.cells #[.bool true, v, .bool s.ov] 62 (0, 0))
  row : OwnO 36 0 w v s.l
  ok : Tx.Ok s

/-- Its blocks. -/
def NB (p : Nat) (v : Value) (g : Nat) : Prop := g = p ∨ v.ownBlock = some g

def Nxt (p : Nat) (F : Nat → Prop) (w : World) (s : Tx.St) : Prop := ∃ v, NxV p w s v ∧ F = NB p v

/-- What a call leaves. -/
def NxS (p : Nat) (F : Nat → Prop) (w w' : World) (s : Tx.St) : Prop := ∃ F', Nxt p F' w' s ∧ Out F w w' ∧ ∀ g, F' g → F g ∨ w.heap.size ≤ g

theorem NxV.below {p : Nat} {w w' : World} {s : Tx.St} {v : Value} (h : NxV p w s v) (hb : Below w.heap.size w w') : NxV p w' s v := ⟨(hb.block p (blk_lt h.blk)).trans h.blk, h.row.below hb, h.ok⟩

theorem NxV.lt {p : Nat} {w : World} {s : Tx.St} {v : Value} (h : NxV p w s v) : ∀ g, NB p v g → g < w.heap.size := by
  rintro g (rfl | e)
  · exact blk_lt h.blk
  · exact (h.row.block g e).2

theorem NxV.ne {p : Nat} {w : World} {s : Tx.St} {v : Value} (h : NxV p w s v) : ¬ v.ownBlock = some p := by
  intro e
  obtain ⟨cs, hc⟩ := h.row.type e
  rw [h.blk] at hc
  simp at hc

theorem Nxt.below {p : Nat} {F : Nat → Prop} {w w' : World} {s : Tx.St} (h : Nxt p F w s) (hb : Below w.heap.size w w') : Nxt p F w' s := by
  obtain ⟨v, hv, e⟩ := h
  exact ⟨v, hv.below hb, e⟩

theorem Nxt.lt {p : Nat} {F : Nat → Prop} {w : World} {s : Tx.St} (h : Nxt p F w s) : ∀ g, F g → g < w.heap.size := by
  obtain ⟨v, hv, rfl⟩ := h
  exact hv.lt

theorem Nxt.out {p : Nat} {F G : Nat → Prop} {w w' : World} {s : Tx.St} (h : Nxt p F w s) (ho : Out G w w') (hd : ∀ g, F g → ¬ G g) : Nxt p F w' s := by
  obtain ⟨v, hv, rfl⟩ := h
  exact ⟨v, ⟨(ho.block p (blk_lt hv.blk) (hd p (.inl rfl))).trans hv.blk, row_agree hv.row fun g hg => ho.block g (hv.row.block g hg).2 (hd g (.inr hg)), hv.ok⟩, rfl⟩

theorem NxS.refl {p : Nat} {F : Nat → Prop} {w w' : World} {s : Tx.St} (h : Nxt p F w s) (hb : Below w.heap.size w w') : NxS p F w w' s := ⟨F, h.below hb, Out.of_below hb, fun g hg => .inl hg⟩

set_option maxHeartbeats 400000 in
theorem nbegin_any (w : World) : Calls Try.prog 17 #[] w fun E w' => ∃ p F, E = .returned (.pointer (some ⟨p, 0, none⟩)) ∧ Nxt p F w' Tx.new ∧ (∀ g, F g → w.heap.size ≤ g) ∧ Below w.heap.size w w' := by
  obtain ⟨W, hW, sz, bel, hB⟩ := blk_step w #[.bool true, .slice none 0 0, .bool false] 62
  go_enter Try.func17, Try.ntmps17
  go_wp2
  go_ret
  refine ⟨w.heap.size, _, rfl, ⟨_, ⟨hB, OwnO.nil _ _ _, Tx.ok_new⟩, rfl⟩, ?_, bel⟩
  rintro g (rfl | e)
  · exact Nat.le_refl _
  · simp [Value.ownBlock] at e

set_option maxHeartbeats 400000 in
theorem nasked_any (p : Nat) (F : Nat → Prop) (w : World) (s : Tx.St) (h : Nxt p F w s) :
    Calls Try.prog 35 #[.pointer (some ⟨p, 0, none⟩)] w fun E w' => E = .returned (.int .i64 (Tx.ask s)) ∧ w = w' := by
  obtain ⟨v, hv, _⟩ := h
  have c0 : w.cell? ⟨p, 0, none⟩ = some (.bool true) := blk_cell hv.blk 0 rfl
  have c2 : w.cell? ⟨p, 2, none⟩ = some (.bool s.ov) := blk_cell hv.blk 2 rfl
  clear hv
  cases hs : s.ov with
  | true =>
    rw [Tx.ask_ov hs]
    rw [hs] at c2
    go_enter Try.func35, Try.ntmps35
    go_wp2
    go_ret
    exact ⟨rfl, rfl⟩
  | false =>
    rw [Tx.ask_on hs]
    rw [hs] at c2
    go_enter Try.func35, Try.ntmps35
    go_wp2
    go_ret
    exact ⟨rfl, rfl⟩

set_option maxHeartbeats 400000 in
theorem nlen_any (p : Nat) (F : Nat → Prop) (w : World) (s : Tx.St) (h : Nxt p F w s) :
    Calls Try.prog 20 #[.pointer (some ⟨p, 0, none⟩)] w fun E w' => E = .returned (.int .i64 (Tx.len s)) ∧ w = w' := by
  have HA := hide (nasked_any p F w s h)
  obtain ⟨v, hv, _⟩ := h
  have c1 : w.cell? ⟨p, 1, none⟩ = some v := blk_cell hv.blk 1 rfl
  obtain ⟨a1, k1, rfl, _, _⟩ := hv.row.is.shape
  clear hv
  cases hs : s.ov with
  | true =>
    rw [Tx.ask_ov hs] at HA
    rw [show Tx.len s = 0 by unfold Tx.len; rw [if_pos hs]]
    go_enter Try.func20, Try.ntmps20
    go_wp2_with fail
    refine HA.out.mono ?_
    rintro E w2 ⟨rfl, rfl⟩
    go_wp2
    go_ret
    exact ⟨rfl, rfl⟩
  | false =>
    rw [Tx.ask_on hs] at HA
    rw [show Tx.len s = s.l.length by unfold Tx.len; rw [if_neg (by rw [hs]; decide)]]
    go_enter Try.func20, Try.ntmps20
    go_wp2_with fail
    refine HA.out.mono ?_
    rintro E w2 ⟨rfl, rfl⟩
    go_wp2
    go_ret
    exact ⟨rfl, rfl⟩

end Go.Proofs.Ytofbnkeglhhnlaa

/- The program's txn in memory. -/
namespace Go.Proofs.Ytofbnkeglhhnlaa
open Go.RowKit
open Bm (Ov)
set_option linter.unusedVariables false

/-- What a closed txn holds: nothing. -/
def Tx.cur (s : Tx.St) : List Ov := if s.ov = true then [] else s.l
theorem Tx.cur_on {s : Tx.St} (h : s.ov = false) : Tx.cur s = s.l := by unfold Tx.cur; rw [if_neg (by rw [h]; decide)]
theorem Tx.cur_ov {s : Tx.St} (h : s.ov = true) : Tx.cur s = [] := by unfold Tx.cur; rw [if_pos h]

/-- How far it has come, as a number. -/
def Tx.stn (s : Tx.St) : Int := if s.ov = true then 2 else 1
theorem Tx.stn_on {s : Tx.St} (h : s.ov = false) : Tx.stn s = 1 := by unfold Tx.stn; rw [if_neg (by rw [h]; decide)]
theorem Tx.stn_ov {s : Tx.St} (h : s.ov = true) : Tx.stn s = 2 := by unfold Tx.stn; rw [if_pos h]

/-- The program's txn: block p, its ops' row v. -/
structure PzV (p : Nat) (w : World) (s : Tx.St) (v : Value) : Prop where
  blk : w.heap[p]? = some (.cells #[.int .u8 (Tx.stn s), v] 48 (0, 0))
  row : OwnO 36 0 w v (Tx.cur s)
  ok : Tx.Ok s

def Pz (p : Nat) (F : Nat → Prop) (w : World) (s : Tx.St) : Prop := ∃ v, PzV p w s v ∧ F = NB p v

/-- What a call leaves. -/
def PzS (p : Nat) (F : Nat → Prop) (w w' : World) (s : Tx.St) : Prop := ∃ F', Pz p F' w' s ∧ Out F w w' ∧ ∀ g, F' g → F g ∨ w.heap.size ≤ g

theorem PzV.below {p : Nat} {w w' : World} {s : Tx.St} {v : Value} (h : PzV p w s v) (hb : Below w.heap.size w w') : PzV p w' s v := ⟨(hb.block p (blk_lt h.blk)).trans h.blk, h.row.below hb, h.ok⟩

theorem PzV.lt {p : Nat} {w : World} {s : Tx.St} {v : Value} (h : PzV p w s v) : ∀ g, NB p v g → g < w.heap.size := by
  rintro g (rfl | e)
  · exact blk_lt h.blk
  · exact (h.row.block g e).2

theorem PzV.ne {p : Nat} {w : World} {s : Tx.St} {v : Value} (h : PzV p w s v) : ¬ v.ownBlock = some p := by
  intro e
  obtain ⟨cs, hc⟩ := h.row.type e
  rw [h.blk] at hc
  simp at hc

theorem Pz.below {p : Nat} {F : Nat → Prop} {w w' : World} {s : Tx.St} (h : Pz p F w s) (hb : Below w.heap.size w w') : Pz p F w' s := by
  obtain ⟨v, hv, e⟩ := h
  exact ⟨v, hv.below hb, e⟩

theorem Pz.lt {p : Nat} {F : Nat → Prop} {w : World} {s : Tx.St} (h : Pz p F w s) : ∀ g, F g → g < w.heap.size := by
  obtain ⟨v, hv, rfl⟩ := h
  exact hv.lt

theorem Pz.ok {p : Nat} {F : Nat → Prop} {w : World} {s : Tx.St} (h : Pz p F w s) : Tx.Ok s := by
  obtain ⟨v, hv, _⟩ := h
  exact hv.ok

theorem Pz.out {p : Nat} {F G : Nat → Prop} {w w' : World} {s : Tx.St} (h : Pz p F w s) (ho : Out G w w') (hd : ∀ g, F g → ¬ G g) : Pz p F w' s := by
  obtain ⟨v, hv, rfl⟩ := h
  exact ⟨v, ⟨(ho.block p (blk_lt hv.blk) (hd p (.inl rfl))).trans hv.blk, row_agree hv.row fun g hg => ho.block g (hv.row.block g hg).2 (hd g (.inr hg)), hv.ok⟩, rfl⟩

theorem PzS.refl {p : Nat} {F : Nat → Prop} {w w' : World} {s : Tx.St} (h : Pz p F w s) (hb : Below w.heap.size w w') : PzS p F w w' s := ⟨F, h.below hb, Out.of_below hb, fun g hg => .inl hg⟩

set_option maxHeartbeats 400000 in
theorem zbegin_any (w : World) : Calls Try.prog 9 #[] w fun E w' => ∃ p F, E = .returned (.pointer (some ⟨p, 0, none⟩)) ∧ Pz p F w' Tx.new ∧ (∀ g, F g → w.heap.size ≤ g) ∧ Below w.heap.size w w' := by
  obtain ⟨W, hW, sz, bel, hB⟩ := blk_step w #[.int .u8 1, .slice none 0 0] 48
  go_enter Try.func9, Try.ntmps9
  go_wp2
  go_ret
  refine ⟨w.heap.size, _, rfl, ⟨_, ⟨hB, OwnO.nil _ _ _, Tx.ok_new⟩, rfl⟩, ?_, bel⟩
  rintro g (rfl | e)
  · exact Nat.le_refl _
  · simp [Value.ownBlock] at e

set_option maxHeartbeats 400000 in
theorem zask_any (p : Nat) (F : Nat → Prop) (w : World) (s : Tx.St) (h : Pz p F w s) :
    Calls Try.prog 26 #[.pointer (some ⟨p, 0, none⟩)] w fun E w' => E = .returned (.int .i64 (Tx.ask s)) ∧ w = w' := by
  obtain ⟨v, hv, _⟩ := h
  have c0 : w.cell? ⟨p, 0, none⟩ = some (.int .u8 (Tx.stn s)) := blk_cell hv.blk 0 rfl
  clear hv
  cases hs : s.ov with
  | true =>
    rw [Tx.ask_ov hs]
    rw [Tx.stn_ov hs] at c0
    go_enter Try.func26, Try.ntmps26
    go_wp2
    go_ret
    exact ⟨rfl, rfl⟩
  | false =>
    rw [Tx.ask_on hs]
    rw [Tx.stn_on hs] at c0
    go_enter Try.func26, Try.ntmps26
    go_wp2
    go_ret
    exact ⟨rfl, rfl⟩

set_option maxHeartbeats 400000 in
theorem zlen_any (p : Nat) (F : Nat → Prop) (w : World) (s : Tx.St) (h : Pz p F w s) : Calls Try.prog 19 #[.pointer (some ⟨p, 0, none⟩)] w fun E w' => E = .returned (.int .i64 (Tx.len s)) ∧ w = w' := by
  have HA := hide (zask_any p F w s h)
  obtain ⟨v, hv, _⟩ := h
  have c1 : w.cell? ⟨p, 1, none⟩ = some v := blk_cell hv.blk 1 rfl
  obtain ⟨a1, k1, rfl, _, _⟩ := hv.row.is.shape
  clear hv
  cases hs : s.ov with
  | true =>
    rw [Tx.ask_ov hs] at HA
    rw [show Tx.len s = 0 by unfold Tx.len; rw [if_pos hs]]
    go_enter Try.func19, Try.ntmps19
    go_wp2_with fail
    refine HA.out.mono ?_
    rintro E w2 ⟨rfl, rfl⟩
    go_wp2
    go_ret
    exact ⟨rfl, rfl⟩
  | false =>
    rw [Tx.ask_on hs] at HA
    rw [Tx.cur_on hs] at c1
    rw [show Tx.len s = s.l.length by unfold Tx.len; rw [if_neg (by rw [hs]; decide)]]
    go_enter Try.func19, Try.ntmps19
    go_wp2_with fail
    refine HA.out.mono ?_
    rintro E w2 ⟨rfl, rfl⟩
    go_wp2
    go_ret
    exact ⟨rfl, rfl⟩

/-- A txn is closed. -/
theorem z_over {p : Nat} {w wc : World} {s : Tx.St} {v : Value} (hv : PzV p w s v) (hb : Below w.heap.size w wc) :
    ∃ W X, wc.setCell ⟨p, 0, none⟩ (.int .u8 2) = W ∧ W.setCell ⟨p, 1, none⟩ (.slice none 0 0) = X ∧ wc.cell? ⟨p, 0, none⟩ = some (.int .u8 (Tx.stn s)) ∧ wc.frozen? ⟨p, 0, none⟩ = false ∧ W.cell? ⟨p, 1, none⟩ = some v ∧ W.frozen? ⟨p, 1, none⟩ = false ∧ PzV p X (Tx.drp s) (.slice none 0 0) ∧ wc.grownBy X (some p) := by
  have hc := hv.below hb
  obtain ⟨W, hW, bW, gW, fW⟩ := put_c hc.blk 0 (.int .u8 2)
  obtain ⟨X, hX, bX, gX, fX⟩ := put_c bW 1 (.slice none 0 0)
  exact ⟨W, X, hW, hX, blk_cell hc.blk 0 rfl, fW, blk_cell bW 1 rfl, fX, ⟨bX, OwnO.nil _ _ _, Tx.ok_drp hv.ok⟩, grown_trans gW gX⟩

/-- What closing leaves. -/
def ZOv (p : Nat) (wc : World) (s : Tx.St) (X : World) : Prop := PzV p X (Tx.drp s) (.slice none 0 0) ∧ wc.grownBy X (some p)

set_option maxHeartbeats 400000 in
theorem zclose_d (p : Nat) (w wc : World) (s : Tx.St) (v : Value) (hv : PzV p w s v) (hb : Below w.heap.size w wc) (u : FrameMode) :
    CallsD Try.prog 28 #[.pointer (some ⟨p, 0, none⟩)] u wc fun e u' w' => u' = u ∧ (e = .returned (.tuple #[]) ∧ ZOv p wc s w') := by
  obtain ⟨W, X, hW, hX, c0, f0, c1, f1, hP, gP⟩ := z_over hv hb
  have HZ : Hid (ZOv p wc s X) := hide ⟨hP, gP⟩
  obtain ⟨a1, k1, hv1, _⟩ := hv.row.is.shape
  subst hv1
  clear hP gP hv hb
  go_enter_d Try.func28, Try.ntmps28
  go_wp2
  go_end0
  exact ⟨rfl, HZ.out⟩

end Go.Proofs.Ytofbnkeglhhnlaa

/- The program's txn: one op more. -/
namespace Go.Proofs.Ytofbnkeglhhnlaa
open Go.RowKit
open Bm (Ov)
set_option linter.unusedVariables false

/-- An op is appended to a txn's row, and the row's slice is written. -/
theorem z_push {p : Nat} {w wc : World} {s : Tx.St} {v : Value} {o : Ov} (hv : PzV p w s v) (hb : Below w.heap.size w wc) (he : Tx.addE s o = 0) :
    ∃ V, wc.alloc (.cells #[.bool o.p, .string o.k, .string o.v] 36) = V ∧ Below wc.heap.size wc V ∧ V.cell? ⟨p, 1, none⟩ = some v ∧ ∀ ty, ∃ v2 w2, (Builtin.append_ #[31, 31] ty #[v, .slice (some ⟨wc.heap.size, 0, none⟩) 1 1]).run Try.prog V.drew = .ok v2 w2 ∧
      (Pz p (NB p v2) (w2.setCell ⟨p, 1, none⟩ v2) (Tx.add s o) ∧ Out (NB p v) w (w2.setCell ⟨p, 1, none⟩ v2) ∧ ∀ g, NB p v2 g → NB p v g ∨ w.heap.size ≤ g) ∧ w2.cell? ⟨p, 1, none⟩ = some v ∧ w2.frozen? ⟨p, 1, none⟩ = false ∧ ∃ a n k, v2 = .slice a n k := by
  have hsz := hb.size
  obtain ⟨ho, hc, hl⟩ := Tx.add_zero he
  obtain ⟨V, hV, szV, belV, ownV⟩ := ops_step 36 wc #[.bool o.p, .string o.k, .string o.v] 1 [o] rfl rfl (by simp [maxLen])
  have bwV : Below w.heap.size w V := hb.trans (belV.mono hsz)
  have bwD : Below w.heap.size w V.drew := bwV.drew
  have bD : Below V.heap.size V V.drew := (Below.refl _ _).drew
  have qD := hv.below bwD
  refine ⟨V, hV, belV, blk_cell (hv.below bwV).blk 1 rfl, fun ty => ?_⟩
  have qrow := qD.row
  rw [Tx.cur_on ho] at qrow
  obtain ⟨v2, w2, hr, own2, gr2, at2⟩ := run_append_ops_at (P := Try.prog) (w := V.drew) 31 ty 36 0 Try.underlying31 Try.info36 v s.l qrow _ [o] (ownV.below bD).is (by simp; omega) (Nat.zero_le _)
  have hpn := qD.ne
  have B2 := (gr2.block p (blk_lt qD.blk) (fun e => hpn e.symm)).trans qD.blk
  obtain ⟨X, hX, bX, gX, fX⟩ := put_c B2 1 v2
  have hn2 : ¬ v2.ownBlock = some p := fun e => by
    obtain ⟨cs, hcs⟩ := own2.type e
    rw [B2] at hcs
    simp at hcs
  have rX : OwnO 36 0 X v2 (s.l ++ [o]) := row_agree own2 fun g hg => gX.block g (own2.block g hg).2 fun e => by
    simp at e
    exact hn2 (e ▸ hg)
  have hadd : Tx.add s o = ⟨s.l ++ [o], false⟩ := by unfold Tx.add; rw [if_pos he]
  have hok := Tx.ok_add hv.ok o
  refine ⟨v2, w2, hr, ⟨?_, ?_, ?_⟩, blk_cell B2 1 rfl, fX, ?_⟩
  · rw [hX]
    rw [hadd] at hok ⊢
    exact ⟨v2, ⟨by rw [bX, Tx.stn_on ho]; rfl, rX, hok⟩, rfl⟩
  · rw [hX]
    exact ((Out.of_below (F := NB p v) bwD).trans (Out.of_grown (F := NB p v) gr2 fun g hg => .inr hg) fun g hg => .inl hg).trans (Out.of_grown (F := NB p v) gX fun g hg => .inl (by simpa using hg.symm)) fun g hg => .inl hg
  · rintro g (e | e)
    · exact .inl (.inl e)
    · rcases at2 with a | a
      · exact .inl (.inr (a ▸ e))
      · rw [a] at e
        simp at e
        right
        have := bwV.size
        omega
  · obtain ⟨a1, k1, h1, _⟩ := own2.is.shape
    exact ⟨a1, _, k1, h1⟩

set_option maxRecDepth 20000 in
set_option maxHeartbeats 2000000 in
theorem zadd_any (p : Nat) (F : Nat → Prop) (w : World) (s : Tx.St) (o : Ov) (h : Pz p F w s) (hk : o.k.size ≤ 140737488351232) (hv : o.v.size ≤ 140737488351232) :
    Calls Try.prog 25 #[.pointer (some ⟨p, 0, none⟩), .agg #[.bool o.p, .string o.k, .string o.v]] w fun E w' => E = .returned (.int .i64 (Tx.addE s o)) ∧ PzS p F w w' (Tx.add s o) := by
  obtain ⟨w1, hw1, sz1, bel1, hB⟩ := blk_step w #[.bool o.p, .string o.k, .string o.v] 36
  have c0 := blk_cell hB 0 rfl
  have c1 := blk_cell hB 1 rfl
  have c2 := blk_cell hB 2 rfl
  have hlt1 := blk_lt hB
  have HA := hide (zask_any p F w1 s (h.below bel1))
  have HC : Hid (Calls Try.prog 36 #[.agg #[.bool o.p, .string o.k, .string o.v]] w1 fun E w' => E = .returned (.int .i64 o.c) ∧ Below w1.heap.size w1 w') := hide (check_any o.p o.k o.v w1 hk hv)
  have hc2 : o.c = 0 ∨ o.c = 2 := Om.chk_two _ _ _
  have HX := hide h
  have B1 := hide bel1
  clear hB sz1 bel1 h
  cases hs : s.ov with
  | true =>
    have e1 : Tx.addE s o = 6 := by unfold Tx.addE; rw [if_pos hs]
    have e2 : Tx.add s o = s := by unfold Tx.add; rw [if_neg (by rw [e1]; decide)]
    rw [Tx.ask_ov hs] at HA
    rw [e1, e2]
    go_enter Try.func25, Try.ntmps25
    go_wp2_with fail
    refine HA.out.mono ?_
    rintro E w2 ⟨rfl, rfl⟩
    go_wp2
    go_ret
    exact ⟨rfl, PzS.refl HX.out B1.out⟩
  | false =>
    rw [Tx.ask_on hs] at HA
    by_cases hc : o.c = 0
    · rw [hc] at HC
      obtain ⟨v, hv', hF⟩ := HX.out
      obtain ⟨la, lk, hlv, _, _⟩ := hv'.row.is.shape
      rw [Tx.cur_on hs] at hlv
      have hl8 := hv'.ok.1
      by_cases h8 : 8 ≤ s.l.length
      · have h8' : (8 : Int) ≤ (s.l.length : Int) := by omega
        have e1 : Tx.addE s o = 3 := by unfold Tx.addE; rw [if_neg (by rw [hs]; decide), if_pos hc, if_pos h8]
        have e2 : Tx.add s o = s := by unfold Tx.add; rw [if_neg (by rw [e1]; decide)]
        rw [e1, e2]
        have HL : Hid (∀ W, Below w1.heap.size w1 W → W.cell? ⟨p, 1, none⟩ = some (.slice la s.l.length lk)) := hide fun W hW => by
          rw [← hlv]
          exact blk_cell (hv'.below (B1.out.trans (hW.mono B1.out.size))).blk 1 rfl
        clear hv' hlv hc hc2 e1 e2 h8 hl8
        go_enter Try.func25, Try.ntmps25
        go_wp2_with fail
        refine HA.out.mono ?_
        rintro E w2 ⟨rfl, rfl⟩
        go_wp2_with fail
        refine HC.out.mono ?_
        rintro E w2 ⟨rfl, b2⟩
        have d1 := HL.out w2 b2
        have B2 := hide (B1.out.trans (b2.mono B1.out.size))
        clear b2
        go_wp2
        go_ret
        exact ⟨rfl, PzS.refl HX.out B2.out⟩
      · have h8' : ¬ (8 : Int) ≤ (s.l.length : Int) := by omega
        have e1 : Tx.addE s o = 0 := by unfold Tx.addE; rw [if_neg (by rw [hs]; decide), if_pos hc, if_neg h8]
        rw [e1]
        have HP : Hid (∀ W, Below w1.heap.size w1 W → W.cell? ⟨p, 1, none⟩ = some (.slice la s.l.length lk) ∧ _) := hide fun W hW => by
          have bW := B1.out.trans (hW.mono B1.out.size)
          refine ⟨?_, z_push hv' bW e1⟩
          rw [← hlv]
          exact blk_cell (hv'.below bW).blk 1 rfl
        rw [hlv] at HP
        have HD : Hid (∀ W, Below w1.heap.size w1 W → W.cell? ⟨w.heap.size, 0, none⟩ = some (.bool o.p) ∧ W.cell? ⟨w.heap.size, 1, none⟩ = some (.string o.k) ∧ W.cell? ⟨w.heap.size, 2, none⟩ = some (.string o.v)) := hide fun W hW => ⟨(hW.cell (p := ⟨w.heap.size, 0, none⟩) hlt1).trans c0, (hW.cell (p := ⟨w.heap.size, 1, none⟩) hlt1).trans c1, (hW.cell (p := ⟨w.heap.size, 2, none⟩) hlt1).trans c2⟩
        rw [hlv] at hF
        have HF := hide hF
        clear hF hlv
        clear hv' hc hc2 e1 h8 hl8 HX
        go_enter Try.func25, Try.ntmps25
        go_wp2_with fail
        refine HA.out.mono ?_
        rintro E w2 ⟨rfl, rfl⟩
        go_wp2_with fail
        refine HC.out.mono ?_
        rintro E w2 ⟨rfl, b2⟩
        obtain ⟨d1, V, hV, bV, dV, hpush⟩ := HP.out w2 b2
        obtain ⟨x0, x1, x2⟩ := HD.out w2 b2
        obtain ⟨y0, y1, y2⟩ := HD.out V (b2.trans (bV.mono b2.size))
        have HPU := hide hpush
        clear hpush b2 bV c0 c1 c2
        go_wp2_with fail
        go_region_law (refine step_append_at rfl (.tmp 27) (.tmp 29) 31 rfl (.slice la s.l.length lk) (.slice (some ⟨w2.heap.size, 0, none⟩) 1 1) (by first | (simp [Act.eval]; done) | (simp [Act.eval, Act.put]; done)) (by first | (simp [Act.eval]; done) | (simp [Act.eval, Act.put]; done)) HPU.out ?_; rintro v8 w8 ⟨J, d8, g8, a8, n8, k8, rfl⟩; have J := hide J)
        all_goals
          go_wp2
          go_ret
          exact ⟨rfl, by rw [HF.out]; exact ⟨_, J.out.1, J.out.2.1, J.out.2.2⟩⟩
    · have e1 : Tx.addE s o = 2 := by unfold Tx.addE; rw [if_neg (by rw [hs]; decide), if_neg hc]
      have e2 : Tx.add s o = s := by unfold Tx.add; rw [if_neg (by rw [e1]; decide)]
      rw [e1, e2]
      have hc3 : o.c = 2 := hc2.resolve_left hc
      rw [hc3] at HC
      go_enter Try.func25, Try.ntmps25
      go_wp2_with fail
      refine HA.out.mono ?_
      rintro E w2 ⟨rfl, rfl⟩
      go_wp2_with fail
      refine HC.out.mono ?_
      rintro E w2 ⟨rfl, b2⟩
      have B2 := hide (B1.out.trans (b2.mono B1.out.size))
      clear b2 hc hc3 hc2
      go_wp2
      go_ret
      exact ⟨rfl, PzS.refl HX.out B2.out⟩

theorem zput_any (p : Nat) (F : Nat → Prop) (w : World) (s : Tx.St) (k v : ByteArray) (h : Pz p F w s) (hk : k.size ≤ 140737488351232) (hv : v.size ≤ 140737488351232) :
    Calls Try.prog 10 #[.pointer (some ⟨p, 0, none⟩), .string k, .string v] w fun E w' => E = .returned (.int .i64 (Tx.addE s ⟨true, k, v⟩)) ∧ PzS p F w w' (Tx.add s ⟨true, k, v⟩) := by
  have HA := hide (zadd_any p F w s ⟨true, k, v⟩ h hk hv)
  generalize Tx.addE s ⟨true, k, v⟩ = e at HA ⊢
  generalize Tx.add s ⟨true, k, v⟩ = s' at HA ⊢
  clear h
  go_enter Try.func10, Try.ntmps10
  go_wp2_with fail
  refine HA.out.mono ?_
  rintro E w2 ⟨rfl, h2⟩
  go_wp2
  go_ret
  exact ⟨rfl, h2⟩

theorem zdel_any (p : Nat) (F : Nat → Prop) (w : World) (s : Tx.St) (k : ByteArray) (h : Pz p F w s) (hk : k.size ≤ 140737488351232) :
    Calls Try.prog 11 #[.pointer (some ⟨p, 0, none⟩), .string k] w fun E w' => E = .returned (.int .i64 (Tx.addE s ⟨false, k, ⟨#[]⟩⟩)) ∧ PzS p F w w' (Tx.add s ⟨false, k, ⟨#[]⟩⟩) := by
  have HA := hide (zadd_any p F w s ⟨false, k, ⟨#[]⟩⟩ h hk (by show (0 : Nat) ≤ _; omega))
  generalize Tx.addE s ⟨false, k, ⟨#[]⟩⟩ = e at HA ⊢
  generalize Tx.add s ⟨false, k, ⟨#[]⟩⟩ = s' at HA ⊢
  clear h
  go_enter Try.func11, Try.ntmps11
  go_wp2_with fail
  refine HA.out.mono ?_
  rintro E w2 ⟨rfl, h2⟩
  go_wp2
  go_ret
  exact ⟨rfl, h2⟩

end Go.Proofs.Ytofbnkeglhhnlaa

/- Rows in memory: a clearing of cells, the rear of a row. No program. -/
namespace Go.Proofs.Ytofbnkeglhhnlaa
open Go.RowKit
set_option linter.unusedVariables false

theorem setCells_grown (g : Nat) : ∀ (vs : List Value) (o : Nat) (w : World), w.grownBy (w.setCells g o vs) (some g)
  | [], _, w => World.grownBy.refl _ _
  | v :: r, o, w => grown_trans (grown_setCell w ⟨g, o, none⟩ v) (setCells_grown g r (o + 1) _)

theorem setCells_cells {g : Nat} {t : TypeId} {fr : Nat × Nat} : ∀ (vs : List Value) (o : Nat) (w : World) (cur : Array Value), w.heap[g]? = some (.cells cur t fr) → ∃ cur', (w.setCells g o vs).heap[g]? = some (.cells cur' t fr) ∧ cur'.size = cur.size ∧ ∀ j, j < o → cur'[j]? = cur[j]?
  | [], _, w, cur, h => ⟨cur, h, rfl, fun _ _ => rfl⟩
  | v :: r, o, w, cur, h => by
    obtain ⟨cur', h1, h2, h3⟩ := setCells_cells r (o + 1) (w.setCell ⟨g, o, none⟩ v) _ (set_cells h o v)
    refine ⟨cur', h1, by rw [h2]; simp, fun j hj => ?_⟩
    rw [h3 j (by omega), Array.getElem?_setIfInBounds, if_neg (by omega)]

/-- What a row holds stays where cells behind it are written. -/
theorem own_setCells {w : World} {base e size g n cap : Nat} {xs : List Value} (h : w.ownsRow base e size (.slice (some ⟨g, 0, none⟩) n cap) n xs) (o : Nat) (ho : n * size ≤ o) (vs : List Value) : (w.setCells g o vs).ownsRow base e size (.slice (some ⟨g, 0, none⟩) n cap) n xs := by
  refine ⟨h.1, ?_⟩
  rcases h.2 with ⟨h', _⟩ | ⟨g', cap', cur, h', hb, hg, hnc, hcm, hcs, htake⟩
  · simp at h'
  · simp only [Value.slice.injEq, Option.some.injEq, Addr.mk.injEq, and_true, true_and] at h'
    obtain ⟨rfl, rfl⟩ := h'
    obtain ⟨cur', h1, h2, h3⟩ := setCells_cells vs o w cur hg
    refine .inr ⟨g, cap, cur', rfl, hb, h1, hnc, hcm, by rw [h2, hcs], ?_⟩
    rw [← htake]
    apply List.ext_getElem?
    intro i
    rw [List.getElem?_take, List.getElem?_take]
    split
    · rw [Array.getElem?_toList, Array.getElem?_toList, h3 i (by omega)]
    · rfl

theorem run_clear_rows {P : Program} {n : Nat} (w : World) (t e ty : TypeId) (z : Value) (ht : P.underlying t = some (.slice e)) (hv : ∀ w, (zeroValue e).run P w = .ok z w) (h1 : ∀ u ∈ (Builtin.zeroCells z.cells n).toList, u.oneCell' = true) (b o c : Nat) (hn : 0 < n)
    (hc : ∀ j, j < (Builtin.zeroCells z.cells n).toList.length → (w.cell? ⟨b, o + j, none⟩).isSome = true) (hf : ∀ j, j < (Builtin.zeroCells z.cells n).toList.length → w.frozen? ⟨b, o + j, none⟩ = false) :
    (Builtin.clear_ #[t] ty #[.slice (some ⟨b, o, none⟩) n c]).run P w = .ok (.tuple #[]) (w.setCells b o (Builtin.zeroCells z.cells n).toList) := by
  have hst := run_storeCells_cells (P := P) b o (Builtin.zeroCells z.cells n).toList 0 w (by simpa using hc) (by simpa using hf) h1
  simp only [Nat.add_zero] at hst
  obtain ⟨m, rfl⟩ : ∃ m, n = m + 1 := ⟨n - 1, by omega⟩
  simp [Builtin.clear_, run_underlying ht, hv, hst]

theorem zeroCells_len (z : Array Value) (n : Nat) : (Builtin.zeroCells z n).toList.length = n * z.size := by
  rw [Array.length_toList, size_zeroCells]

theorem zeroCells_one {z : Array Value} (n : Nat) (hz : ∀ u ∈ z, u.oneCell' = true) : ∀ u ∈ (Builtin.zeroCells z n).toList, u.oneCell' = true := by
  intro u hu
  unfold Builtin.zeroCells at hu
  rw [Array.toList_map, Array.toList_range, List.mem_map] at hu
  obtain ⟨i, hi, rfl⟩ := hu
  rw [List.mem_range] at hi
  have h0 : 0 < z.size := Nat.pos_of_ne_zero fun h => by rw [h] at hi; simp at hi
  have hlt : i % z.size < z.size := Nat.mod_lt _ h0
  rw [getElem!_pos z _ hlt]
  exact hz _ (Array.getElem_mem hlt)

section
variable {α : Type} {P : Program} {w : World} {v : Value}

/-- 'v[p:]'. -/
theorem RowG.slice_l {f : α → List Value} {k : Nat} (hk : ∀ a, (f a).length = k) {l : List α} (h : RowG f w v l) {t : TypeId} (ht : P.underlying t = some (.slice (P.elem t))) (hs : ∀ wx, (sizeOf (P.elem t)).run P wx = .ok k wx) (p : Nat) (hp : p ≤ l.length) :
    ∃ vs, (∀ wx, (Instr.slice t v (some (.int .i64 p)) none none).run P wx = .ok vs wx) ∧ RowG f w vs (l.drop p) := by
  have hlen : (l.drop p).length = l.length - p := by rw [List.length_drop]
  rcases h with ⟨hv, hz⟩ | ⟨ad, cap, hv, h1, h2, hc⟩
  · subst hz hv
    obtain rfl : p = 0 := by simpa using hp
    refine ⟨.slice none 0 0, fun wx => ?_, RowG.nil _ _⟩
    rw [run_slice_l wx t none 0 0 ht .i64 _ (by omega) (by omega)]
    simp [Result.andThen, sliced, hs]
  · subst hv
    by_cases hcl : cap = p
    · refine ⟨.slice (some ad) (l.length - p) (cap - p), fun wx => ?_, .inr ⟨ad, cap - p, by rw [hlen], by rw [hlen]; omega, by omega, fun j u hj => ?_⟩⟩
      · rw [run_slice_l wx t (some ad) l.length cap ht .i64 _ (by omega) (by omega), hs]
        simp [Result.andThen, sliced, hcl]
      · rw [List.drop_eq_nil_of_le (by omega)] at hj
        simp [gcells] at hj
    · refine ⟨.slice (some (ad.add (p * k))) (l.length - p) (cap - p), fun wx => ?_, .inr ⟨ad.add (p * k), cap - p, by rw [hlen], by rw [hlen]; omega, by omega, fun j u hj => ?_⟩⟩
      · rw [run_slice_l wx t (some ad) l.length cap ht .i64 _ (by omega) (by omega), hs]
        simp [Result.andThen, sliced, hcl]
      · have e : (ad.add (p * k)).add j = ad.add (p * k + j) := by
          unfold Addr.add
          by_cases h0 : p * k = 0 <;> by_cases h3 : j = 0 <;> simp [h0, h3, Nat.add_assoc]
        rw [gcells_drop hk, List.getElem?_drop] at hj
        rw [e]
        exact hc _ u hj

end

end Go.Proofs.Ytofbnkeglhhnlaa

/- The document's txn: one op more. -/
namespace Go.Proofs.Ytofbnkeglhhnlaa
open Go.RowKit
open Bm (Ov)
set_option linter.unusedVariables false

/-- An op is appended to a txn's row, and the row's slice is written. -/
theorem n_push {p : Nat} {w wc : World} {s : Tx.St} {v : Value} {o : Ov} (hv : NxV p w s v) (hb : Below w.heap.size w wc) (he : Tx.addE s o = 0) :
    ∃ V, wc.alloc (.cells #[.bool o.p, .string o.k, .string o.v] 36) = V ∧ Below wc.heap.size wc V ∧ V.cell? ⟨p, 1, none⟩ = some v ∧ ∀ ty, ∃ v2 w2, (Builtin.append_ #[31, 31] ty #[v, .slice (some ⟨wc.heap.size, 0, none⟩) 1 1]).run Try.prog V.drew = .ok v2 w2 ∧
      (Nxt p (NB p v2) (w2.setCell ⟨p, 1, none⟩ v2) (Tx.add s o) ∧ Out (NB p v) w (w2.setCell ⟨p, 1, none⟩ v2) ∧ ∀ g, NB p v2 g → NB p v g ∨ w.heap.size ≤ g) ∧ w2.cell? ⟨p, 1, none⟩ = some v ∧ w2.frozen? ⟨p, 1, none⟩ = false ∧ ∃ a n k, v2 = .slice a n k := by
  have hsz := hb.size
  obtain ⟨ho, hc, hl⟩ := Tx.add_zero he
  obtain ⟨V, hV, szV, belV, ownV⟩ := ops_step 36 wc #[.bool o.p, .string o.k, .string o.v] 1 [o] rfl rfl (by simp [maxLen])
  have bwV : Below w.heap.size w V := hb.trans (belV.mono hsz)
  have bwD : Below w.heap.size w V.drew := bwV.drew
  have bD : Below V.heap.size V V.drew := (Below.refl _ _).drew
  have qD := hv.below bwD
  refine ⟨V, hV, belV, blk_cell (hv.below bwV).blk 1 rfl, fun ty => ?_⟩
  obtain ⟨v2, w2, hr, own2, gr2, at2⟩ := run_append_ops_at (P := Try.prog) (w := V.drew) 31 ty 36 0 Try.underlying31 Try.info36 v s.l qD.row _ [o] (ownV.below bD).is (by simp; omega) (Nat.zero_le _)
  have hpn := qD.ne
  have B2 := (gr2.block p (blk_lt qD.blk) (fun e => hpn e.symm)).trans qD.blk
  obtain ⟨X, hX, bX, gX, fX⟩ := put_c B2 1 v2
  have hn2 : ¬ v2.ownBlock = some p := fun e => by
    obtain ⟨cs, hcs⟩ := own2.type e
    rw [B2] at hcs
    simp at hcs
  have rX : OwnO 36 0 X v2 (s.l ++ [o]) := row_agree own2 fun g hg => gX.block g (own2.block g hg).2 fun e => by
    simp at e
    exact hn2 (e ▸ hg)
  have hadd : Tx.add s o = ⟨s.l ++ [o], false⟩ := by unfold Tx.add; rw [if_pos he]
  have hok := Tx.ok_add hv.ok o
  refine ⟨v2, w2, hr, ⟨?_, ?_, ?_⟩, blk_cell B2 1 rfl, fX, ?_⟩
  · rw [hX]
    rw [hadd] at hok ⊢
    exact ⟨v2, ⟨by rw [bX, ho]; rfl, rX, hok⟩, rfl⟩
  · rw [hX]
    exact ((Out.of_below (F := NB p v) bwD).trans (Out.of_grown (F := NB p v) gr2 fun g hg => .inr hg) fun g hg => .inl hg).trans (Out.of_grown (F := NB p v) gX fun g hg => .inl (by simpa using hg.symm)) fun g hg => .inl hg
  · rintro g (e | e)
    · exact .inl (.inl e)
    · rcases at2 with a | a
      · exact .inl (.inr (a ▸ e))
      · rw [a] at e
        simp at e
        right
        have := bwV.size
        omega
  · obtain ⟨a1, k1, h1, _⟩ := own2.is.shape
    exact ⟨a1, _, k1, h1⟩

set_option maxRecDepth 20000 in
set_option maxHeartbeats 2000000 in
theorem nadd_any (p : Nat) (F : Nat → Prop) (w : World) (s : Tx.St) (o : Ov) (h : Nxt p F w s) (hk : o.k.size ≤ 140737488351232) (hv : o.v.size ≤ 140737488351232) :
    Calls Try.prog 40 #[.pointer (some ⟨p, 0, none⟩), .agg #[.bool o.p, .string o.k, .string o.v]] w fun E w' => E = .returned (.int .i64 (Tx.addE s o)) ∧ NxS p F w w' (Tx.add s o) := by
  obtain ⟨w1, hw1, sz1, bel1, hB⟩ := blk_step w #[.bool o.p, .string o.k, .string o.v] 36
  have c0 := blk_cell hB 0 rfl
  have c1 := blk_cell hB 1 rfl
  have c2 := blk_cell hB 2 rfl
  have hlt1 := blk_lt hB
  have HA := hide (nasked_any p F w1 s (h.below bel1))
  have HC : Hid (Calls Try.prog 42 #[.agg #[.bool o.p, .string o.k, .string o.v]] w1 fun E w' => E = .returned (.int .i64 o.c) ∧ Below w1.heap.size w1 w') := hide (checkR_any o.p o.k o.v w1 hk hv)
  have HX := hide h
  have B1 := hide bel1
  clear hB sz1 bel1 h
  cases hs : s.ov with
  | true =>
    have e1 : Tx.addE s o = 6 := by unfold Tx.addE; rw [if_pos hs]
    have e2 : Tx.add s o = s := by unfold Tx.add; rw [if_neg (by rw [e1]; decide)]
    rw [Tx.ask_ov hs] at HA
    rw [e1, e2]
    go_enter Try.func40, Try.ntmps40
    go_wp2_with fail
    refine HA.out.mono ?_
    rintro E w2 ⟨rfl, rfl⟩
    go_wp2
    go_ret
    exact ⟨rfl, NxS.refl HX.out B1.out⟩
  | false =>
    rw [Tx.ask_on hs] at HA
    by_cases hc : o.c = 0
    · rw [hc] at HC
      obtain ⟨v, hv', hF⟩ := HX.out
      obtain ⟨la, lk, hlv, _, _⟩ := hv'.row.is.shape
      have hl8 := hv'.ok.1
      by_cases h8 : 8 ≤ s.l.length
      · have h8' : (8 : Int) ≤ (s.l.length : Int) := by omega
        have e1 : Tx.addE s o = 3 := by unfold Tx.addE; rw [if_neg (by rw [hs]; decide), if_pos hc, if_pos h8]
        have e2 : Tx.add s o = s := by unfold Tx.add; rw [if_neg (by rw [e1]; decide)]
        rw [e1, e2]
        have HL : Hid (∀ W, Below w1.heap.size w1 W → W.cell? ⟨p, 1, none⟩ = some (.slice la s.l.length lk)) := hide fun W hW => by
          rw [← hlv]
          exact blk_cell (hv'.below (B1.out.trans (hW.mono B1.out.size))).blk 1 rfl
        clear hv' hlv hc e1 e2 h8 hl8
        go_enter Try.func40, Try.ntmps40
        go_wp2_with fail
        refine HA.out.mono ?_
        rintro E w2 ⟨rfl, rfl⟩
        go_wp2_with fail
        refine HC.out.mono ?_
        rintro E w2 ⟨rfl, b2⟩
        have d1 := HL.out w2 b2
        have B2 := hide (B1.out.trans (b2.mono B1.out.size))
        clear b2
        go_wp2
        go_ret
        exact ⟨rfl, NxS.refl HX.out B2.out⟩
      · have h8' : ¬ (8 : Int) ≤ (s.l.length : Int) := by omega
        have e1 : Tx.addE s o = 0 := by unfold Tx.addE; rw [if_neg (by rw [hs]; decide), if_pos hc, if_neg h8]
        rw [e1]
        have HP : Hid (∀ W, Below w1.heap.size w1 W → W.cell? ⟨p, 1, none⟩ = some (.slice la s.l.length lk) ∧ _) := hide fun W hW => by
          have bW := B1.out.trans (hW.mono B1.out.size)
          refine ⟨?_, n_push hv' bW e1⟩
          rw [← hlv]
          exact blk_cell (hv'.below bW).blk 1 rfl
        rw [hlv] at HP
        have HD : Hid (∀ W, Below w1.heap.size w1 W → W.cell? ⟨w.heap.size, 0, none⟩ = some (.bool o.p) ∧ W.cell? ⟨w.heap.size, 1, none⟩ = some (.string o.k) ∧ W.cell? ⟨w.heap.size, 2, none⟩ = some (.string o.v)) := hide fun W hW => ⟨(hW.cell (p := ⟨w.heap.size, 0, none⟩) hlt1).trans c0, (hW.cell (p := ⟨w.heap.size, 1, none⟩) hlt1).trans c1, (hW.cell (p := ⟨w.heap.size, 2, none⟩) hlt1).trans c2⟩
        rw [hlv] at hF
        have HF := hide hF
        clear hF hlv
        clear hv' hc e1 h8 hl8 HX
        go_enter Try.func40, Try.ntmps40
        go_wp2_with fail
        refine HA.out.mono ?_
        rintro E w2 ⟨rfl, rfl⟩
        go_wp2_with fail
        refine HC.out.mono ?_
        rintro E w2 ⟨rfl, b2⟩
        obtain ⟨d1, V, hV, bV, dV, hpush⟩ := HP.out w2 b2
        obtain ⟨x0, x1, x2⟩ := HD.out w2 b2
        obtain ⟨y0, y1, y2⟩ := HD.out V (b2.trans (bV.mono b2.size))
        have HPU := hide hpush
        clear hpush b2 bV c0 c1 c2
        go_wp2_with fail
        go_region_law (refine step_append_at rfl (.tmp 27) (.tmp 29) 31 rfl (.slice la s.l.length lk) (.slice (some ⟨w2.heap.size, 0, none⟩) 1 1) (by first | (simp [Act.eval]; done) | (simp [Act.eval, Act.put]; done)) (by first | (simp [Act.eval]; done) | (simp [Act.eval, Act.put]; done)) HPU.out ?_; rintro v8 w8 ⟨J, d8, g8, a8, n8, k8, rfl⟩; have J := hide J)
        all_goals
          go_wp2
          go_ret
          exact ⟨rfl, by rw [HF.out]; exact ⟨_, J.out.1, J.out.2.1, J.out.2.2⟩⟩
    · have e1 : Tx.addE s o = 2 := by unfold Tx.addE; rw [if_neg (by rw [hs]; decide), if_neg hc]
      have e2 : Tx.add s o = s := by unfold Tx.add; rw [if_neg (by rw [e1]; decide)]
      rw [e1, e2]
      have hcb : (o.c == 0) = false := by simpa using hc
      go_enter Try.func40, Try.ntmps40
      go_wp2_with fail
      refine HA.out.mono ?_
      rintro E w2 ⟨rfl, rfl⟩
      go_wp2_with fail
      refine HC.out.mono ?_
      rintro E w2 ⟨rfl, b2⟩
      have B2 := hide (B1.out.trans (b2.mono B1.out.size))
      generalize o.c = oc at hc hcb
      clear b2
      go_wp2
      go_ret
      exact ⟨rfl, NxS.refl HX.out B2.out⟩

end Go.Proofs.Ytofbnkeglhhnlaa
