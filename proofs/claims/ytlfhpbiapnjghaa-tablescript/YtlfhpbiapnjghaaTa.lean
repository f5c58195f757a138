/- The program's table in memory: New, isMade, Get, Len. -/
import Derived.Test.YtlfhpbiapnjghaaTm
import Derived.Test.YtlfhpbiapnjghaaBk
import Derived.Test.YtlfhpbiapnjghaaOb
import Derived.Maps.OwnSet
import Derived.BigQuiet
namespace Go.Proofs.Ytlfhpbiapnjghaa
open Go.RowKit Go.Maps
open Bm (Ov)
set_option linter.unusedVariables false

theorem Try.keyed : Keyed Try.prog 9 := string_keyed Try.underlying9

/-- How an entry reads. -/
def Ren : Value → Option (DataW Unit × List MemPlace)
  | .agg cs => match cs.toList with
    | [.string s, .bool b] => some (.agg [.lit (.string s.data.toList), .lit (.bool b)], [])
    | _ => none
  | _ => none

def env (v : ByteArray) (p : Bool) : Value := .agg #[.string v, .bool p]

theorem ren_mk (o : Ov) : Ren (env o.v o.p) = some (Tm.el o, []) := rfl

theorem ren_inv {v : Value} {y : DataW Unit × List MemPlace} (h : Ren v = some y) : ∃ (s : ByteArray) (b : Bool), v = env s b ∧ y = (.agg [.lit (.string s.data.toList), .lit (.bool b)], []) := by
  unfold Ren at h
  split at h
  · rename_i cs
    split at h
    · rename_i s b hcs
      refine ⟨s, b, ?_, by simpa using h.symm⟩
      obtain ⟨l⟩ := cs
      simp at hcs
      subst hcs
      rfl
    · simp at h
  · simp at h

theorem ren_el {v : Value} {o : Ov} {ps : List MemPlace} (h : Ren v = some (Tm.el o, ps)) : v = env o.v o.p := by
  obtain ⟨s, b, rfl, e⟩ := ren_inv h
  simp only [Tm.el, Ov.vl, Prod.mk.injEq, DataW.agg.injEq, List.cons.injEq, DataW.lit.injEq, Lit.string.injEq, Lit.bool.injEq, and_true] at e
  obtain ⟨⟨e1, e2⟩, _⟩ := e
  rw [Bm.ba_eq e1, e2]

theorem ren_zero {v : Value} {ps : List MemPlace} (h : Ren v = some (.agg [.lit (.string []), .lit (.bool false)], ps)) : v = env ⟨#[]⟩ false := ren_el (o := ⟨false, ⟨#[]⟩, ⟨#[]⟩⟩) h

theorem Try.zeroE (w : World) : (zeroValue 59).run Try.prog w = .ok (env ⟨#[]⟩ false) w := by kernel_rfl

theorem World.ownsMap.tight {P : Program} {k : TypeId} {R : Value → Option (DataW Unit × List MemPlace)} {w : World} {b n : Nat} {D : DataW Unit} (h : w.ownsMap P k R b n D) : w.ownsMap P k R b (Maps.size D) D := by
  obtain ⟨es, clock, hb, F, hs, rfl⟩ := h
  exact ⟨es, clock, hb, F, by simp [Maps.size, length_sorted], rfl⟩

/-- The program's table: a block with the map, the map's block. -/
structure Tb (p b : Nat) (w : World) (t : List Ov) : Prop where
  blk : w.heap[p]? = some (.cells #[.map (some b)] 52 (0, 0))
  own : w.ownsMap Try.prog 9 Ren b t.length (Tm.dat t)
  up : Tm.Up t

theorem Tb.plt {p b : Nat} {w : World} {t : List Ov} (h : Tb p b w t) : p < w.heap.size := blk_lt h.blk
theorem Tb.blt {p b : Nat} {w : World} {t : List Ov} (h : Tb p b w t) : b < w.heap.size := h.own.lt

theorem Tb.agree {p b : Nat} {w w' : World} {t : List Ov} (h : Tb p b w t) (h1 : w'.heap[p]? = w.heap[p]?) (h2 : w'.heap[b]? = w.heap[b]?) : Tb p b w' t := by
  refine ⟨h1.trans h.blk, ?_, h.up⟩
  obtain ⟨es, clock, hb, r⟩ := h.own
  exact ⟨es, clock, h2.trans hb, r⟩

theorem Tb.below {p b : Nat} {w w' : World} {t : List Ov} (h : Tb p b w t) (hb : Below w.heap.size w w') : Tb p b w' t := h.agree (hb.block p h.plt) (hb.block b h.blt)

theorem Tb.cell {p b : Nat} {w : World} {t : List Ov} (h : Tb p b w t) : w.cell? ⟨p, 0, none⟩ = some (.map (some b)) := blk_cell h.blk 0 rfl

theorem Tb.ne {p b : Nat} {w : World} {t : List Ov} (h : Tb p b w t) : p ≠ b := fun e => by
  obtain ⟨es, clock, hb, _⟩ := h.own
  have := h.blk
  rw [e, hb] at this
  cases this

/-- No row of cells lies in the map's block. -/
theorem Tb.row {p b : Nat} {w : World} {t : List Ov} (h : Tb p b w t) {g j : Nat} {u : Value} (hc : w.cell? ⟨g, j, none⟩ = some u) : g ≠ b := fun e => by
  obtain ⟨es, clock, hb, _⟩ := h.own
  subst e
  simp [World.cell?, hb] at hc

theorem equalIn_map (w : World) (d : Nat) (m : Option Nat) : (Op.equalIn (d + 1) 50 (.map m) (.map none)).run Try.prog w = .ok m.isNone w := by
  have h := Try.underlying50
  cases m <;> simp [Op.equalIn, run_underlying h]

theorem Try.neqnilM (w : World) (m : Option Nat) : (binOp .neq 50 (.map m) (.map none)).run Try.prog w = .ok (.bool (!m.isNone)) w := by
  simp only [binOp]
  simp [Op.equal, Op.maxDepth, equalIn_map w 9999 m]

set_option maxRecDepth 100000 in
theorem made_any (p b : Nat) (w : World) (hc : w.cell? ⟨p, 0, none⟩ = some (.map (some b))) :
    Calls Try.prog 26 #[.pointer (some ⟨p, 0, none⟩)] w fun E w' => E = .returned (.bool true) ∧ w = w' := by
  have hn := Try.neqnilM w (some b)
  go_enter Try.func26, Try.ntmps26
  go_wp2
  go_ret
  exact ⟨rfl, rfl⟩

set_option maxRecDepth 100000 in
theorem made_none (p : Nat) (w : World) (hc : w.cell? ⟨p, 0, none⟩ = some (.map none)) :
    Calls Try.prog 26 #[.pointer (some ⟨p, 0, none⟩)] w fun E w' => E = .returned (.bool false) ∧ w = w' := by
  have hn := Try.neqnilM w none
  go_enter Try.func26, Try.ntmps26
  go_wp2
  go_ret
  exact ⟨rfl, rfl⟩

set_option maxRecDepth 100000 in
theorem made_nil (w : World) :
    Calls Try.prog 26 #[.pointer none] w fun E w' => E = .returned (.bool false) ∧ w = w' := by
  go_enter Try.func26, Try.ntmps26
  go_wp2
  go_ret
  exact ⟨rfl, rfl⟩

theorem tnew_any (w : World) : Calls Try.prog 16 #[] w fun E w' => E = .returned (.pointer (some ⟨w.heap.size + 1, 0, none⟩)) ∧ Tb (w.heap.size + 1) w.heap.size w' [] ∧ Below w.heap.size w w' := by
  obtain ⟨w1, hw1⟩ : ∃ w1, w.alloc (.map #[] 0) = w1 := ⟨_, rfl⟩
  have hm1 : w1.ownsMap Try.prog 9 Ren w.heap.size 0 (.map []) := by rw [← hw1]; exact World.ownsMap_made _ _ _ _
  have sz1 : w1.heap.size = w.heap.size + 1 := by rw [← hw1]; simp
  have b1 : Below w.heap.size w w1 := by rw [← hw1]; exact (Below.refl _ _).alloc (Nat.le_refl _) _
  obtain ⟨w2, hw2, sz2, b2, B2⟩ := blk_step w1 #[.map (some w.heap.size)] 52
  rw [sz1] at B2 b2
  have H : Hid (Tb (w.heap.size + 1) w.heap.size w2 [] ∧ Below w.heap.size w w2) := hide ⟨⟨B2, by
    obtain ⟨es, clock, hb, r⟩ := hm1
    exact ⟨es, clock, (b2.block _ (by omega)).trans hb, r⟩, List.Pairwise.nil⟩, b1.trans (b2.mono (by omega))⟩
  have hmm := @run_makeMap Try.prog
  clear hm1 b1 b2 B2
  go_enter Try.func16, Try.ntmps16
  go_wp2
  go_ret
  exact ⟨rfl, H.out⟩

/-- What Get answers. -/
def gv (t : List Ov) (k : ByteArray) : ByteArray := match Tm.get t k with | some o => o.v | none => ⟨#[]⟩
def gp (t : List Ov) (k : ByteArray) : Bool := match Tm.get t k with | some o => o.p | none => false

theorem look_tb {p b : Nat} {w : World} {t : List Ov} (h : Tb p b w t) (k : ByteArray) (hk : k.size ≤ maxLen) (c : Bool) :
    (Instr.lookup 50 (.map (some b)) (.string k) c).run Try.prog w = .ok (if c then .tuple #[env (gv t k) (gp t k), .bool (Tm.met t k)] else env (gv t k) (gp t k)) w := by
  have hkey : keyOf Try.prog 9 (.string k) = some (.string k.data.toList) := WideMaps.keyOf_string_mk Try.underlying9 hk
  have hsh : ∀ (v : Value) (ps : List MemPlace), Ren v = some ((Tm.dat t).atKey (.string k.data.toList) (.agg [.lit (.string []), .lit (.bool false)]), ps) → v = env (gv t k) (gp t k) := fun v ps hv => by
    rw [Tm.dat_at] at hv
    unfold gv gp
    cases e : Tm.get t k with
    | none => rw [e] at hv; exact ren_zero hv
    | some o => rw [e] at hv; exact ren_el hv
  cases c
  · obtain ⟨v, ps, hrun, hv⟩ := h.own.lookup Try.keyed Try.underlying50 (Try.zeroE w) (zd := .agg [.lit (.string []), .lit (.bool false)]) (zp := []) rfl hkey
    rw [hrun, hsh v ps hv]
    rfl
  · obtain ⟨v, ps, hrun, hv⟩ := h.own.look_ok Try.keyed Try.underlying50 (Try.zeroE w) (zd := .agg [.lit (.string []), .lit (.bool false)]) (zp := []) rfl hkey
    rw [hrun, hsh v ps hv, Tm.dat_has, Tm.met_get]
    rfl

theorem tget_any (p b : Nat) (w : World) (t : List Ov) (k : ByteArray) (h : Tb p b w t) (hk : k.size ≤ 140737488355328) :
    Calls Try.prog 11 #[.pointer (some ⟨p, 0, none⟩), .string k] w fun E w' => E = .returned (.tuple #[.string (gv t k), .bool (Tm.met t k), .bool (gp t k)]) ∧ Below w.heap.size w w' := by
  have hc := h.cell
  have hl := look_tb h k (by unfold maxLen; omega) true
  simp only [if_true] at hl
  have HM := hide (made_any p b w hc)
  obtain ⟨w1, hw1, sz1, b1, B1⟩ := blk_step w #[.string (gv t k), .bool (gp t k)] 59
  have c0 := blk_cell B1 0 rfl
  have c1 := blk_cell B1 1 rfl
  unfold env at hl
  clear h B1
  go_enter Try.func11, Try.ntmps11
  go_wp2_with fail
  refine HM.out.mono ?_
  rintro E w' ⟨rfl, rfl⟩
  go_wp2
  go_quiet (fail)
  go_wp2
  go_ret3
  exact ⟨rfl, b1.trans (below_drewN (Below.refl _ _) _)⟩

theorem tlen_any (p b : Nat) (w : World) (t : List Ov) (h : Tb p b w t) :
    Calls Try.prog 12 #[.pointer (some ⟨p, 0, none⟩)] w fun E w' => E = .returned (.int .i64 t.length) ∧ w = w' := by
  have hc := h.cell
  have hl := fun ty => h.own.len Try.underlying50 ty
  rw [Tm.dat_size] at hl
  have HM := hide (made_any p b w hc)
  clear h
  go_enter Try.func12, Try.ntmps12
  go_wp2_with fail
  refine HM.out.mono ?_
  rintro E w' ⟨rfl, rfl⟩
  go_wp2
  go_ret
  exact ⟨rfl, rfl⟩

end Go.Proofs.Ytlfhpbiapnjghaa
