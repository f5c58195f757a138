/- Texts of one layer, one behind the other. -/
import Derived.Test.YtajlhdmnincehaaGreatDoorH1
import Derived.Test.YtajlhdmnincehaaGreatDoorG2
import Derived.Test.YtajlhdmnincehaaGreatDoorH6
import Derived.Test.YtajlhdmnincehaaGreatDoorG1
import Derived.Test.YtajlhdmnincehaaGreatDoorH3
import Derived.Test.YtajlhdmnincehaaGreatDoorH2
import Derived.Test.YtajlhdmnincehaaGreatDoorH18
import Derived.Test.YtajlhdmnincehaaGreatDoorH19
import Derived.Deep.RegionHeld3
import Derived.Test.YtajlhdmnincehaaGreatDoorH21
import Derived.Test.YtajlhdmnincehaaGreatDoorH24
/- Rows of starts in memory; the contracts of starts' lastEpoch, rise and Check, and of the document's Check and epoch. -/
namespace Go.Proofs.YtajlhdmnincehaaGreatDoor
open Go.RowKit
set_option linter.unusedVariables false

/-- A start's cells. -/
def stc (s : Sm.S) : List Value := [.int .i64 s.1, .int .i64 s.2]
theorem stc_len (s : Sm.S) : (stc s).length = 2 := rfl

abbrev RowS (w : World) (v : Value) (l : List Sm.S) : Prop := RowG stc w v l











end Go.Proofs.YtajlhdmnincehaaGreatDoor

/- A message in memory: eight cells. -/
namespace Go.Proofs.YtajlhdmnincehaaGreatDoor
open Go.RowKit
set_option linter.unusedVariables false

/-- A message in memory: kind, epoch, role, end, starts (the slice, what it reads as), from, prev, commits (likewise). -/
structure Mw where
  k : Int
  e : Int
  r : Int
  n : Int
  vs : Value
  ss : List Sm.S
  f : Int
  p : Int
  vc : Value
  cs : List Cw


/-- Nothing in it. -/
def mno : Mw := ⟨0, 0, 0, 0, .slice none 0 0, [], 0, 0, .slice none 0 0, []⟩

/-- Its lists read as they should. -/
structure IsM (w : World) (m : Mw) : Prop where
  s : RowS w m.vs m.ss
  c : IsC w m.vc m.cs




/-- What any message is. -/
structure FitM (m : Mw) : Prop where
  k : In64 m.k
  e : In64 m.e
  r0 : 0 ≤ m.r
  r1 : m.r < 256
  n : In64 m.n
  f : In64 m.f
  p : In64 m.p
  ls : m.ss.length ≤ 140737488355328
  fc : FitC m.cs
  lc : m.cs.length ≤ 140737488355328


/-- Eight cells of a block. -/
structure Ei (w : World) (g : Nat) (a b c d e f h i : Value) : Prop where
  c0 : w.cell? ⟨g, 0, none⟩ = some a
  c1 : w.cell? ⟨g, 1, none⟩ = some b
  c2 : w.cell? ⟨g, 2, none⟩ = some c
  c3 : w.cell? ⟨g, 3, none⟩ = some d
  c4 : w.cell? ⟨g, 4, none⟩ = some e
  c5 : w.cell? ⟨g, 5, none⟩ = some f
  c6 : w.cell? ⟨g, 6, none⟩ = some h
  c7 : w.cell? ⟨g, 7, none⟩ = some i











end Go.Proofs.YtajlhdmnincehaaGreatDoor

/- The program's roles (layer 20): the check ahead of each step, a page's own step, the table of steps and each step in it. -/
namespace Go.Proofs.YtajlhdmnincehaaGreatDoor
open Go.RowKit
set_option linter.unusedVariables false

namespace Rol
open Pm (Pg chk no Ok)

/-- Why a page may not be, or a number lies outside its bounds. -/
def ck (x : Pg) (n lo hi : Int) : Int := if chk x = 0 then (if n < lo ∨ hi < n then 2 else 0) else chk x

/-- The step that is a page's own. -/
def own (x : Pg) : Int := if x.r = 1 then 0 else if x.r = 2 then 1 else if x.p = 1 then 2 else if x.p = 2 then 3 else if x.p = 3 then 4 else 5


end Rol



end Go.Proofs.YtajlhdmnincehaaGreatDoor

/- The program's roles (layer 20): the table of steps, and the step of a page that is its own. -/
namespace Go.Proofs.YtajlhdmnincehaaGreatDoor
open Go.RowKit
set_option linter.unusedVariables false


/-- The variables that the table's steps hold. -/
structure Tbl (B : Nat) (n b : Int) (w : World) : Prop where
  h0 : w.heap[B]? = some (.cells #[.int .i64 n] 3 (0, 0))
  h1 : w.heap[B + 1]? = some (.cells #[.int .i64 b] 3 (0, 0))
  h3 : w.heap[B + 3]? = some (.cells #[.int .u8 3] 58 (0, 0))
  h4 : w.heap[B + 4]? = some (.cells #[.int .u8 4] 58 (0, 0))






end Go.Proofs.YtajlhdmnincehaaGreatDoor

/- Acts of layer 23 in memory. -/
namespace Go.Proofs.YtajlhdmnincehaaGreatDoor
open Go.RowKit
set_option linter.unusedVariables false

/-- An act: kind, n, t, key, ops, message, bytes. -/
structure Av23 where
  k : Int
  n : Int
  t : Int
  key : ByteArray
  v : Value
  l : List Bm.Ov
  m : Mw
  b : Value
  bs : List Int

/-- Its cells; as a value. -/
def avc3 (a : Av23) : List Value := [.int .i64 a.k, .int .i64 a.n, .int .i64 a.t, .string a.key, a.v, .int .i64 a.m.k, .int .i64 a.m.e, .int .u8 a.m.r, .int .i64 a.m.n, a.m.vs, .int .i64 a.m.f, .int .i64 a.m.p, a.m.vc, a.b]
def avv3 (a : Av23) : Value := .agg (avc3 a).toArray

/-- Its parts read as they should. -/
structure AvOk3 (w : World) (a : Av23) : Prop where
  ops : IsO w a.v a.l
  msg : IsM w a.m
  by8 : Is .u8 w a.b a.bs
  kn : In64 a.k ∧ In64 a.n ∧ In64 a.t




end Go.Proofs.YtajlhdmnincehaaGreatDoor

/- What an argument that is a slice of starts, or a slice of yes and no, comes in as. No program. -/
namespace Go.Proofs.YtajlhdmnincehaaGreatDoor
open Go.RowKit Go.ChangeShapes Go.WideShapes Go.Deep
set_option linter.unusedVariables false



section
variable {H : Type} {enc : TypeId × Value → H} {P : Program} {w : World} {base : Nat} {spare : Nat → Bool} {held : Bool}

theorem trod_struct2 {t : TypeId} {f0 f1 : Field} {fuel : Nat} {cs : List Value} {x : DataW H × List MemPlace} (ht : P.underlying t = some (.struct #[f0, f1])) (h : DataW.trod enc P w base spare held fuel t cs = some x) :
    ∃ y0 y1 n, DataW.trod enc P w base spare held n f0.type ((cs.drop f0.offset).take (P.cellsOf f0.type)) = some y0 ∧ DataW.trod enc P w base spare held n f1.type ((cs.drop f1.offset).take (P.cellsOf f1.type)) = some y1 := by
  obtain ⟨xs, n, _, rfl, hl, hlen, hf⟩ := DataW.trod_struct ht h
  match xs, hlen with
  | [y0, y1], _ => exact ⟨y0, y1, n, by simpa using hf 0 f0 rfl, by simpa using hf 1 f1 rfl⟩

theorem open_sts {t e : TypeId} {f0 f1 : Field} {fuel : Nat} {v : Value} {x : DataW H × List MemPlace} (ht : P.underlying t = some (.slice e)) (he : P.underlying e = some (.struct #[f0, f1]))
    (hone : oneCellFields P #[f0, f1] = true) (ce : P.cellsOf e = 2) (u0 : P.underlying f0.type = some (.int .i64)) (u1 : P.underlying f1.type = some (.int .i64))
    (h : DataW.trod enc P w base spare held fuel t [v] = some x) : ∃ r : List Sm.S, RowS w v r ∧ ((x.1 = .nil ∧ r = []) ∨ ∃ ds sp, x.1 = .slice ds sp ∧ ds.length = r.length) := by
  rcases open_slice ht h with ⟨hv, hx⟩ | ⟨a, len, cap, m, n, D, Pl, hv, hb, hl, hm, hmm, rfl, hx⟩
  · simp at hv
    subst hv hx
    exact ⟨[], RowG.nil _ _, .inl ⟨rfl, rfl⟩⟩
  · simp at hv
    subst hv
    have hlm : len ≤ m := by rw [hmm]; split <;> omega
    obtain ⟨o0, c0⟩ := hone_of hone 0 f0 rfl
    obtain ⟨o1, c1⟩ := hone_of hone 1 f1 rfl
    have each : ∀ i, i < len → ∃ c : Sm.S, ∀ m u, (stc c)[m]? = some u → w.cell? (a.add (i * 2 + m)) = some u := by
      intro i hi
      obtain ⟨cs', h1, h2⟩ := hx i (by omega)
      rw [ce] at h1
      obtain ⟨_, hlen, hcell⟩ := World.cells?_some h1
      obtain ⟨y0, y1, k, q0, q1⟩ := trod_struct2 he h2
      match cs', hlen with
      | [v0, v1], _ =>
        simp [o0, o1, c0, c1] at q0 q1
        obtain ⟨p0, h0, rfl, w0⟩ := DataW.trod_int u0 q0
        obtain ⟨p1, h1', rfl, w1⟩ := DataW.trod_int u1 q1
        simp at h0 h1'
        subst h0 h1'
        refine ⟨(p0, p1), fun m u hu => ?_⟩
        have hm3 : m < 2 := (List.getElem?_eq_some_iff.1 hu).1
        have hc := hcell m (by omega)
        rw [Go.Deep.add_add] at hc
        rw [hc]
        rcases (show m = 0 ∨ m = 1 by omega) with rfl | rfl <;> simpa [stc] using hu
    have : Inhabited Sm.S := ⟨(0, 0)⟩
    obtain ⟨f, hf⟩ := choose_lt each
    refine ⟨(List.range len).map f, .inr ⟨a, cap, by simp, by simpa using hl, hm, fun j u hj => ?_⟩, .inr ⟨(List.range len).map D, (List.range (m - len)).map fun j => D (len + j), rfl, by simp⟩⟩
    obtain ⟨i, c, m', hic, rfl, hu⟩ := gcells_inv stc_len (by decide) _ j u hj
    obtain ⟨hi, e⟩ := List.getElem?_eq_some_iff.1 hic
    simp at hi e
    subst e
    exact hf i hi m' u hu


end

end Go.Proofs.YtajlhdmnincehaaGreatDoor

/- What an argument that is a message comes in as. No program. -/
namespace Go.Proofs.YtajlhdmnincehaaGreatDoor
open Go.RowKit Go.ChangeShapes Go.WideShapes Go.Deep
set_option linter.unusedVariables false


section
variable {H : Type} {enc : TypeId × Value → H} {P : Program} {w : World} {base : Nat} {spare : Nat → Bool} {held : Bool}

theorem trod_struct8 {t : TypeId} {f0 f1 f2 f3 f4 f5 f6 f7 : Field} {fuel : Nat} {cs : List Value} {x : DataW H × List MemPlace} (ht : P.underlying t = some (.struct #[f0, f1, f2, f3, f4, f5, f6, f7])) (h : DataW.trod enc P w base spare held fuel t cs = some x) :
    ∃ y0 y1 y2 y3 y4 y5 y6 y7 n, x.1 = .agg [y0.1, y1.1, y2.1, y3.1, y4.1, y5.1, y6.1, y7.1] ∧ DataW.trod enc P w base spare held n f0.type ((cs.drop f0.offset).take (P.cellsOf f0.type)) = some y0 ∧
      DataW.trod enc P w base spare held n f1.type ((cs.drop f1.offset).take (P.cellsOf f1.type)) = some y1 ∧ DataW.trod enc P w base spare held n f2.type ((cs.drop f2.offset).take (P.cellsOf f2.type)) = some y2 ∧
      DataW.trod enc P w base spare held n f3.type ((cs.drop f3.offset).take (P.cellsOf f3.type)) = some y3 ∧ DataW.trod enc P w base spare held n f4.type ((cs.drop f4.offset).take (P.cellsOf f4.type)) = some y4 ∧
      DataW.trod enc P w base spare held n f5.type ((cs.drop f5.offset).take (P.cellsOf f5.type)) = some y5 ∧ DataW.trod enc P w base spare held n f6.type ((cs.drop f6.offset).take (P.cellsOf f6.type)) = some y6 ∧
      DataW.trod enc P w base spare held n f7.type ((cs.drop f7.offset).take (P.cellsOf f7.type)) = some y7 := by
  obtain ⟨xs, n, _, rfl, hl, hlen, hf⟩ := DataW.trod_struct ht h
  match xs, hlen with
  | [y0, y1, y2, y3, y4, y5, y6, y7], _ => exact ⟨y0, y1, y2, y3, y4, y5, y6, y7, n, rfl, by simpa using hf 0 f0 rfl, by simpa using hf 1 f1 rfl, by simpa using hf 2 f2 rfl, by simpa using hf 3 f3 rfl, by simpa using hf 4 f4 rfl, by simpa using hf 5 f5 rfl, by simpa using hf 6 f6 rfl, by simpa using hf 7 f7 rfl⟩




end

end Go.Proofs.YtajlhdmnincehaaGreatDoor

/- What an argument that is an act of layer 23, or a slice of them, comes in as. No program. -/
namespace Go.Proofs.YtajlhdmnincehaaGreatDoor
open Go.RowKit Go.ChangeShapes Go.WideShapes Go.Deep
set_option linter.unusedVariables false

section
variable {H : Type} {enc : TypeId × Value → H} {P : Program} {w : World} {base : Nat} {spare : Nat → Bool} {held : Bool}

theorem trod_seven {t : TypeId} {f0 f1 f2 f3 f4 f5 f6 : Field} {fuel : Nat} {cs : List Value} {x : DataW H × List MemPlace} (ht : P.underlying t = some (.struct #[f0, f1, f2, f3, f4, f5, f6])) (h : DataW.trod enc P w base spare held fuel t cs = some x) :
    ∃ y0 y1 y2 y3 y4 y5 y6 n, x.1 = .agg [y0.1, y1.1, y2.1, y3.1, y4.1, y5.1, y6.1] ∧ DataW.trod enc P w base spare held n f0.type ((cs.drop f0.offset).take (P.cellsOf f0.type)) = some y0 ∧
      DataW.trod enc P w base spare held n f1.type ((cs.drop f1.offset).take (P.cellsOf f1.type)) = some y1 ∧ DataW.trod enc P w base spare held n f2.type ((cs.drop f2.offset).take (P.cellsOf f2.type)) = some y2 ∧
      DataW.trod enc P w base spare held n f3.type ((cs.drop f3.offset).take (P.cellsOf f3.type)) = some y3 ∧ DataW.trod enc P w base spare held n f4.type ((cs.drop f4.offset).take (P.cellsOf f4.type)) = some y4 ∧
      DataW.trod enc P w base spare held n f5.type ((cs.drop f5.offset).take (P.cellsOf f5.type)) = some y5 ∧ DataW.trod enc P w base spare held n f6.type ((cs.drop f6.offset).take (P.cellsOf f6.type)) = some y6 := by
  obtain ⟨xs, n, _, rfl, hl, hlen, hf⟩ := DataW.trod_struct ht h
  match xs, hlen with
  | [y0, y1, y2, y3, y4, y5, y6], _ => exact ⟨y0, y1, y2, y3, y4, y5, y6, n, by simp, by simpa using hf 0 f0 rfl, by simpa using hf 1 f1 rfl, by simpa using hf 2 f2 rfl, by simpa using hf 3 f3 rfl, by simpa using hf 4 f4 rfl, by simpa using hf 5 f5 rfl, by simpa using hf 6 f6 rfl⟩

/-- The types of an act. -/
structure A23T (P : Program) (e o c s y : TypeId) (f0 f1 f2 f3 f4 f5 f6 m0 m1 m2 m3 m4 m5 m6 m7 s0 s1 c0 c1 c2 g0 g1 g2 : Field) : Prop where
  he : P.underlying e = some (.struct #[f0, f1, f2, f3, f4, f5, f6])
  of : f0.offset = 0 ∧ f1.offset = 1 ∧ f2.offset = 2 ∧ f3.offset = 3 ∧ f4.offset = 4 ∧ f5.offset = 5 ∧ f6.offset = 13
  cl : P.cellsOf f0.type = 1 ∧ P.cellsOf f1.type = 1 ∧ P.cellsOf f2.type = 1 ∧ P.cellsOf f3.type = 1 ∧ P.cellsOf f4.type = 1 ∧ P.cellsOf f5.type = 8 ∧ P.cellsOf f6.type = 1
  u : P.underlying f0.type = some (.int .i64) ∧ P.underlying f1.type = some (.int .i64) ∧ P.underlying f2.type = some (.int .i64) ∧ P.underlying f3.type = some .string
  ops : P.underlying f4.type = some (.slice o)
  ho : P.underlying o = some (.struct #[g0, g1, g2])
  oo : oneCellFields P #[g0, g1, g2] = true
  co : P.cellsOf o = 3
  ou : P.underlying g0.type = some .bool ∧ P.underlying g1.type = some .string ∧ P.underlying g2.type = some .string
  me : P.underlying f5.type = some (.struct #[m0, m1, m2, m3, m4, m5, m6, m7])
  mo : oneCellFields P #[m0, m1, m2, m3, m4, m5, m6, m7] = true
  mu : P.underlying m0.type = some (.int .i64) ∧ P.underlying m1.type = some (.int .i64) ∧ P.underlying m2.type = some (.int .u8) ∧ P.underlying m3.type = some (.int .i64) ∧ P.underlying m4.type = some (.slice s) ∧ P.underlying m5.type = some (.int .i64) ∧ P.underlying m6.type = some (.int .i64) ∧ P.underlying m7.type = some (.slice c)
  hs : P.underlying s = some (.struct #[s0, s1])
  so : oneCellFields P #[s0, s1] = true
  sn : P.cellsOf s = 2
  su : P.underlying s0.type = some (.int .i64) ∧ P.underlying s1.type = some (.int .i64)
  hc : P.underlying c = some (.struct #[c0, c1, c2])
  cc : oneCellFields P #[c0, c1, c2] = true
  cn : P.cellsOf c = 3
  cu : P.underlying c0.type = some (.int .i64) ∧ P.underlying c1.type = some (.int .i64) ∧ P.underlying c2.type = some (.slice o)
  by8 : P.underlying f6.type = some (.slice y)
  hy : P.underlying y = some (.int .u8)
  yn : P.cellsOf y = 1

/-- An act as a datum. -/
def ActD23 (d : DataW H) (a : Av23) : Prop := ∃ x0 x1 x2 x3 d4 x5 x6, d = .agg [x0, x1, x2, x3, d4, x5, x6] ∧ OpsD d4 a.l

variable {e o c s y : TypeId} {f0 f1 f2 f3 f4 f5 f6 m0 m1 m2 m3 m4 m5 m6 m7 s0 s1 c0 c1 c2 g0 g1 g2 : Field}

/-- Fourteen cells that are an act. -/
theorem open_a14 (T : A23T P e o c s y f0 f1 f2 f3 f4 f5 f6 m0 m1 m2 m3 m4 m5 m6 m7 s0 s1 c0 c1 c2 g0 g1 g2) {fuel : Nat} {cs : List Value} {x : DataW H × List MemPlace} (hl : cs.length = 14) (h : DataW.trod enc P w base spare held fuel e cs = some x) :
    ∃ a : Av23, cs = avc3 a ∧ AvOk3 w a ∧ ActD23 x.1 a := by
  obtain ⟨y0, y1, y2, y3, y4, y5, y6, k, hx, r0, r1, r2, r3, r4, r5, r6⟩ := trod_seven T.he h
  obtain ⟨a0, a1, a2, a3, a4, a5, a6⟩ := T.of
  obtain ⟨b0, b1, b2, b3, b4, b5, b6⟩ := T.cl
  match cs, hl with
  | [v0, v1, v2, v3, v4, v5, v6, v7, v8, v9, v10, v11, v12, v13], _ =>
    simp [a0, a1, a2, a3, a4, a5, a6, b0, b1, b2, b3, b4, b5, b6] at r0 r1 r2 r3 r4 r5 r6
    obtain ⟨z0, hz0, _, w0⟩ := DataW.trod_int T.u.1 r0
    obtain ⟨z1, hz1, _, w1⟩ := DataW.trod_int T.u.2.1 r1
    obtain ⟨z2, hz2, _, w2⟩ := DataW.trod_int T.u.2.2.1 r2
    obtain ⟨z3, hz3, _, _⟩ := DataW.trod_string T.u.2.2.2 r3
    obtain ⟨l, hl2, hd2⟩ := open_ops T.ops T.ho T.oo T.co T.ou.1 T.ou.2.1 T.ou.2.2 r4
    obtain ⟨q0, q1, q2, q3, q4, q5, q6, q7, n5, hm, h0, h1, h2, h3, h4, h5, h6, h7⟩ := trod_struct8 T.me r5
    obtain ⟨o0, k0⟩ := hone_of T.mo 0 m0 rfl
    obtain ⟨o1, k1⟩ := hone_of T.mo 1 m1 rfl
    obtain ⟨o2, k2⟩ := hone_of T.mo 2 m2 rfl
    obtain ⟨o3, k3⟩ := hone_of T.mo 3 m3 rfl
    obtain ⟨o4, k4⟩ := hone_of T.mo 4 m4 rfl
    obtain ⟨o5, k5⟩ := hone_of T.mo 5 m5 rfl
    obtain ⟨o6, k6⟩ := hone_of T.mo 6 m6 rfl
    obtain ⟨o7, k7⟩ := hone_of T.mo 7 m7 rfl
    simp [o0, o1, o2, o3, o4, o5, o6, o7, k0, k1, k2, k3, k4, k5, k6, k7] at h0 h1 h2 h3 h4 h5 h6 h7
    obtain ⟨u0, u1, u2, u3, u4, u5, u6, u7⟩ := T.mu
    obtain ⟨t0, e0, _, _⟩ := DataW.trod_int u0 h0
    obtain ⟨t1, e1, _, _⟩ := DataW.trod_int u1 h1
    obtain ⟨t2, e2, _, _⟩ := DataW.trod_int u2 h2
    obtain ⟨t3, e3, _, _⟩ := DataW.trod_int u3 h3
    obtain ⟨ss, hss, _⟩ := open_sts u4 T.hs T.so T.sn T.su.1 T.su.2 h4
    obtain ⟨t5, e5, _, _⟩ := DataW.trod_int u5 h5
    obtain ⟨t6, e6, _, _⟩ := DataW.trod_int u6 h6
    obtain ⟨rs, hrs, _⟩ := open_coms u7 T.hc T.cc T.cn T.cu.1 T.cu.2.1 T.cu.2.2 T.ho T.oo T.co T.ou.1 T.ou.2.1 T.ou.2.2 h7
    obtain ⟨bs, hbs⟩ := open_byts T.by8 T.hy T.yn r6
    simp at hz0 hz1 hz2 hz3 e0 e1 e2 e3 e5 e6
    subst hz0 hz1 hz2 hz3 e0 e1 e2 e3 e5 e6
    exact ⟨⟨z0, z1, z2, z3, v4, l, ⟨t0, t1, t2, t3, v9, ss, t5, t6, v12, rs⟩, v13, bs⟩, rfl, ⟨hl2, ⟨hss, hrs⟩, hbs, in64 w0, in64 w1, in64 w2⟩, y0.1, y1.1, y2.1, y3.1, y4.1, y5.1, y6.1, hx, hd2⟩

/-- An act by value. -/
theorem open_act23 (T : A23T P e o c s y f0 f1 f2 f3 f4 f5 f6 m0 m1 m2 m3 m4 m5 m6 m7 s0 s1 c0 c1 c2 g0 g1 g2) {r : Reach} {b0 : Nat} {v : Value} {d : DataW H} {p : List MemPlace} (hC : P.cellsOf e = 14) (hv : Value.okWide P w r b0 e v) (h : DataW.Trod enc P w base spare held e v d p) : ∃ a : Av23, v = avv3 a ∧ AvOk3 w a := by
  obtain ⟨cs, rfl, hsz⟩ := okWide_struct T.he hv
  obtain ⟨fuel, hf⟩ := h
  obtain ⟨a, ha, hok, _⟩ := open_a14 T (by simpa [Value.cells] using hsz.trans hC) hf
  refine ⟨a, ?_, hok⟩
  obtain ⟨l⟩ := cs
  have hl : l = avc3 a := by simpa [Value.cells] using ha
  rw [hl]
  rfl





end

end Go.Proofs.YtajlhdmnincehaaGreatDoor
