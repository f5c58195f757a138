/- Texts of one layer, one behind the other. -/
import Derived.Test.YtfnaeblbodfekaaGJ
import Derived.Test.YtfnaeblbodfekaaGQ
/- Law 17: example, small. -/
namespace Go.Proofs.Ytfnaeblbodfekaa
open Go.RowKit
open Bm (Ov)
set_option linter.unusedVariables false

/-- The chapter's log. -/
def exO17 : Ov := ⟨false, ⟨#[107]⟩, ⟨#[]⟩⟩
def exE (i : Nat) : Int := if i = 6 then 3 else 1
def exL : Nat → List Cm.Cv
  | 0 => []
  | i + 1 => exL i ++ [⟨exE (i + 1), (i + 1 : Nat), [exO17]⟩]

theorem ex_fit (i : Nat) (h : i ≤ 6) : CFit (exE i) i [exO17] := by
  refine ⟨?_, ⟨by omega, by omega⟩, fun o ho => ?_, by simp⟩
  · unfold exE In64
    split <;> omega
  · rw [List.mem_singleton.1 ho]
    exact ⟨by decide, by decide⟩

/-- What example comes to. -/
def ExR (w : World) (E : Ending) (w' : World) : Prop := ∃ v rs, E = .returned v ∧ ShS w.heap.size w' v rs ∧ cvs rs = exL 6 ∧ Below w.heap.size w w'

/-- What is gone through. -/
def Sm17 (rs : List Cw) : Prop := rs.length ≤ 40 ∧ ∀ c ∈ rs, c.l.length ≤ 40

/-- What small comes to. -/
def SmR (rs : List Cw) (w : World) (E : Ending) (w' : World) : Prop := (∃ b : Bool, E = .returned (.bool b) ∧ (b = true → Sm17 rs)) ∧ w = w'

end Go.Proofs.Ytfnaeblbodfekaa

/- A message that is told, as a value; the chapter's log in numbers (layer 17). -/
namespace Go.Proofs.Ytfnaeblbodfekaa
open Go.RowKit
set_option linter.unusedVariables false

/-- The message as it stands in memory. -/
def mw17 (m : Mm.Msg) (sa : Option Addr) (so : Nat) (ca : Option Addr) (co : Nat) (cs : List Cw) : Mw := ⟨m.k, m.e, m.r, m.n, .slice sa m.ss.length so, m.ss, m.f, m.p, .slice ca m.cs.length co, cs⟩

/-- What is told, opened. -/
structure Tld (w w' : World) (m : Mm.Msg) (sa : Option Addr) (so : Nat) (ca : Option Addr) (co : Nat) (cs : List Cw) : Prop where
  own : OwnM w.heap.size w' (mw17 m sa so ca co cs)
  fit : FitM (mw17 m sa so ca co cs)
  is : cvs cs = m.cs
  bel : Below w.heap.size w w'

theorem DecR.open {w w' : World} {m : Mm.Msg} {g : Int} {E : Ending} (h : DecR w m g E w') :
    ∃ sa so ca co cs, E = .returned (.tuple #[.agg #[.int .i64 m.k, .int .i64 m.e, .int .u8 m.r, .int .i64 m.n, .slice sa m.ss.length so, .int .i64 m.f, .int .i64 m.p, .slice ca m.cs.length co], .int .i64 g]) ∧ Tld w w' m sa so ca co cs := by
  obtain ⟨x, rfl, H⟩ := h
  obtain ⟨h1, h2, h3, h4⟩ := H.out
  obtain ⟨sa, so, hs, _, _⟩ := h2.is.s.shape
  obtain ⟨ca, co, hc, _, _⟩ := h2.is.c.1.shape
  subst h1
  have hl : (cvs x.cs).length = x.cs.length := cvs_n _
  have hx : mw17 x.m sa so ca co x.cs = x := by
    unfold mw17 Mw.m
    simp only
    rw [hl, ← hs, ← hc]
  refine ⟨sa, so, ca, co, x.cs, ?_, ⟨by rw [hx]; exact h2, by rw [hx]; exact h3, rfl, h4⟩⟩
  unfold mv Mw.m
  simp only
  rw [hl, ← hs, ← hc]

theorem Tld.is' {w w' : World} {m : Mm.Msg} {sa : Option Addr} {so : Nat} {ca : Option Addr} {co : Nat} {cs : List Cw} (h : Tld w w' m sa so ca co cs) : (mw17 m sa so ca co cs).m = m := by
  unfold mw17 Mw.m
  simp only
  rw [h.is]

theorem ex_lck : Shp.lck 3 (exL 6) = 0 := by rfl
theorem ex_n0 : Shp.nxtE 3 (exL 6) 0 = 0 ∧ Shp.nxt 3 (exL 6) 0 = ⟨2, 3, 0, 0, [], 1, 0, (exL 6).take 4⟩ := ⟨by rfl, by rfl⟩
theorem ex_n4 : Shp.nxtE 3 (exL 6) 4 = 0 ∧ Shp.nxt 3 (exL 6) 4 = ⟨2, 3, 0, 0, [], 5, 1, [⟨1, 5, [exO17]⟩, ⟨3, 6, [exO17]⟩]⟩ := ⟨by rfl, by rfl⟩
theorem ex_n6 : Shp.nxtE 3 (exL 6) 6 = 0 ∧ Shp.nxt 3 (exL 6) 6 = ⟨2, 3, 0, 0, [], 7, 3, []⟩ := ⟨by rfl, by rfl⟩
theorem ex_n7 : Shp.nxtE 3 (exL 6) 7 = 2 ∧ Shp.nxt 3 (exL 6) 7 = Mm.no := ⟨by rfl, by rfl⟩
theorem ex_n2 : Shp.nxtE 2 (exL 6) 0 = 15 ∧ Shp.nxt 2 (exL 6) 0 = Mm.no := ⟨by rfl, by rfl⟩
theorem ex_h : Shp.helE 3 1 (exL 6) = 0 ∧ Shp.hel 3 1 (exL 6) = ⟨1, 3, 1, 6, [(1, 1), (3, 6)], 0, 0, []⟩ := ⟨by rfl, by rfl⟩
theorem ex_h0 : Shp.helE 3 0 [] = 2 ∧ Shp.hel 3 0 [] = Mm.no := ⟨by rfl, by rfl⟩
theorem ex_a : Shp.ackE 2 7 = 0 ∧ Shp.ack 2 7 = ⟨3, 2, 0, 7, [], 0, 0, []⟩ := ⟨by rfl, by rfl⟩
theorem ex_a0 : Shp.ackE 0 7 = 2 ∧ Shp.ack 0 7 = Mm.no := ⟨by rfl, by rfl⟩

end Go.Proofs.Ytfnaeblbodfekaa

/- A message that was told, in its block. -/
namespace Go.Proofs.Ytfnaeblbodfekaa
open Go.RowKit
set_option linter.unusedVariables false

/-- A message that was told lies in the block B; what it says. -/
structure Blt (w : World) (B base : Nat) (m : Mm.Msg) (sa : Option Addr) (so : Nat) (ca : Option Addr) (co : Nat) (cs : List Cw) : Prop where
  blk : w.heap[B]? = some (.cells #[.int .i64 m.k, .int .i64 m.e, .int .u8 m.r, .int .i64 m.n, .slice sa m.ss.length so, .int .i64 m.f, .int .i64 m.p, .slice ca m.cs.length co] 30 (0, 0))
  own : OwnM base w (mw17 m sa so ca co cs)
  fit : FitM (mw17 m sa so ca co cs)
  is : cvs cs = m.cs

section
variable {w w' : World} {B base : Nat} {m : Mm.Msg} {sa : Option Addr} {so : Nat} {ca : Option Addr} {co : Nat} {cs : List Cw}

theorem Blt.below (h : Blt w B base m sa so ca co cs) (hb : Below w.heap.size w w') : Blt w' B base m sa so ca co cs := ⟨(hb.block B (blk_lt h.blk)).trans h.blk, h.own.below hb, h.fit, h.is⟩
theorem Blt.ei (h : Blt w B base m sa so ca co cs) : Ei w B (.int .i64 m.k) (.int .i64 m.e) (.int .u8 m.r) (.int .i64 m.n) (.slice sa m.ss.length so) (.int .i64 m.f) (.int .i64 m.p) (.slice ca m.cs.length co) := ei_of h.blk
theorem Blt.m' (h : Blt w B base m sa so ca co cs) : (mw17 m sa so ca co cs).m = m := by
  unfold mw17 Mw.m
  simp only
  rw [h.is]

/-- What was told is laid into a block. -/
theorem blt_new {w0 : World} (h : Tld w0 w m sa so ca co cs) :
    ∃ V, w.alloc (.cells #[.int .i64 m.k, .int .i64 m.e, .int .u8 m.r, .int .i64 m.n, .slice sa m.ss.length so, .int .i64 m.f, .int .i64 m.p, .slice ca m.cs.length co] 30) = V ∧ Below w.heap.size w V ∧ Blt V w.heap.size w0.heap.size m sa so ca co cs := by
  obtain ⟨V, hV, sz, bel, hB⟩ := blk_step w #[.int .i64 m.k, .int .i64 m.e, .int .u8 m.r, .int .i64 m.n, .slice sa m.ss.length so, .int .i64 m.f, .int .i64 m.p, .slice ca m.cs.length co] 30
  exact ⟨V, hV, bel, hB, h.own.below bel, h.fit, h.is⟩

/-- Two messages that say the same. -/
theorem blt_same {B2 base2 : Nat} {sa2 : Option Addr} {so2 : Nat} {ca2 : Option Addr} {co2 : Nat} {cs2 : List Cw} (h : Blt w B base m sa so ca co cs) (k : Blt w B2 base2 m sa2 so2 ca2 co2 cs2) :
    Calls Try.prog 38 #[.agg #[.int .i64 m.k, .int .i64 m.e, .int .u8 m.r, .int .i64 m.n, .slice sa m.ss.length so, .int .i64 m.f, .int .i64 m.p, .slice ca m.cs.length co], .agg #[.int .i64 m.k, .int .i64 m.e, .int .u8 m.r, .int .i64 m.n, .slice sa2 m.ss.length so2, .int .i64 m.f, .int .i64 m.p, .slice ca2 m.cs.length co2]] w fun E w' => E = .returned (.bool true) ∧ Below w.heap.size w w' := by
  have := msameK_any (mw17 m sa so ca co cs) (mw17 m sa2 so2 ca2 co2 cs2) w h.own.is k.own.is h.fit k.fit
  rw [h.m', k.m', smM_iff.2 rfl] at this
  exact this

/-- Its commits as a list of their own. -/
theorem Blt.oc (h : Blt w B base m sa so ca co cs) (hl : cs.length ≤ 4) (ho : ∀ c ∈ cs, c.l.length ≤ 1000) : Oc base w (.slice ca m.cs.length co) cs := ⟨h.own.c, h.own.o, h.own.i, h.own.ap, by omega, ho, h.fit.fc⟩

end

end Go.Proofs.Ytfnaeblbodfekaa
