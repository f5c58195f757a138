/- Logs and their starts, by mathematics, in the contracts' words. -/
import Derived.Test.YtklpbcdkgjoheaaSh
import Derived.Test.YtklpbcdkgjoheaaSo
import Derived.Test.YtklpbcdkgjoheaaSn
namespace Go.Proofs.Ytklpbcdkgjoheaa
open Go.RowKit
set_option linter.unusedVariables false

theorem cvs_lenk (r : List Cw) : (cvs r).length = r.length := by unfold cvs; rw [List.length_map]

theorem good_of {r : List Cw} (hg : Cm.Good 0 0 (cvs r)) (k : Nat) : Cm.Good 0 0 (cvs (r.take k)) := by
  rw [cvs_take]
  exact Cm.good_take hg k

theorem ok_of {r : List Cw} (hg : Cm.Good 0 0 (cvs r)) {k : Nat} (hk : k ≤ r.length) : Sm.Ok (Sm.told 0 (cvs (r.take k))) k := by
  have := Sm.told_ok (good_of hg k)
  rw [cvs_lenk, List.length_take, Nat.min_eq_left hk] at this
  exact this

theorem ok_all {r : List Cw} (hg : Cm.Good 0 0 (cvs r)) : Sm.Ok (Sm.told 0 (cvs r)) r.length := by
  have := Sm.told_ok hg
  rw [cvs_lenk] at this
  exact this

theorem fol_none {r : List Cw} (hg : Cm.Good 0 0 (cvs r)) : Cm.fol 0 0 0 (cvs r) = (0, 0) ∧ ofs (cvs r) = Sm.told 0 (cvs r) := by
  have h1 := (Cm.fol_good (cvs r) 0 0 0).2 hg
  exact ⟨Prod.ext h1 (Cm.fol_at _ _ _ _ h1), ofs_ok h1⟩

/-- One commit more. -/
theorem grow_round {r : List Cw} (hg : Cm.Good 0 0 (cvs r)) {k : Nat} {c : Cw} (hc : r[k]? = some c) : grE (Sm.told 0 (cvs (r.take k))) k c.e c.n c.l = 0 ∧ grL (Sm.told 0 (cvs (r.take k))) k c.e c.n c.l = Sm.told 0 (cvs (r.take (k + 1))) := by
  have hk := (List.getElem?_eq_some_iff.1 hc).1
  have hcc : (cvs r)[k]? = some c.c := by unfold cvs; rw [List.getElem?_map, hc]; rfl
  obtain ⟨h1, h2, h3, _⟩ := Cm.good_at (cvs r) 0 0 k c.c hg hcc
  have hE : grE (Sm.told 0 (cvs (r.take k))) k c.e c.n c.l = 0 := by
    unfold grE
    rw [if_pos (Sm.chk_ok (ok_of hg (by omega))), Sm.lst_told]
    refine (Cm.fol_good [⟨c.e, c.n, c.l⟩] _ _ 0).2 ⟨h1, ?_, ?_, trivial⟩
    · show c.n - 1 = k
      have : c.c.n = c.n := rfl
      omega
    · rw [cvs_take]
      exact h3
  refine ⟨hE, ?_⟩
  unfold grL
  rw [if_pos hE, cvs_next hc, Sm.told_grw]
  rfl

theorem at_in {r : List Cw} (hg : Cm.Good 0 0 (cvs r)) {p : Nat} (hp : p ≤ r.length) : atE (Sm.told 0 (cvs r)) r.length p = 0 ∧ trm (Sm.told 0 (cvs r)) r.length p = Sm.told 0 (cvs (r.take p)) ∧ atV (Sm.told 0 (cvs r)) r.length p = Sm.epo p 0 (Sm.told 0 (cvs r)) := by
  obtain ⟨h1, h2⟩ := atE_ok (n := (p : Int)) (Sm.chk_ok (ok_all hg)) (by omega)
  refine ⟨h1, ?_, h2⟩
  unfold trm
  rw [if_pos h1, cvs_take]
  have := Sm.told_beg (cvs r) 0 0 p hg
  rw [Int.zero_add] at this
  exact this

theorem at_zero {r : List Cw} (hg : Cm.Good 0 0 (cvs r)) : Sm.epo ((0 : Nat) : Int) 0 (Sm.told 0 (cvs r)) = 0 := Sm.ok_zero (ok_all hg)

theorem at_more {r : List Cw} (hg : Cm.Good 0 0 (cvs r)) {k : Nat} {c : Cw} (hc : r[k]? = some c) : Sm.epo ((k : Int) + 1) 0 (Sm.told 0 (cvs r)) = c.e := by
  have hcc : (cvs r)[k]? = some c.c := by unfold cvs; rw [List.getElem?_map, hc]; rfl
  exact Sm.told_at hg hcc

/-- Of, of a log that follows: no fault. -/
theorem of_good (vl : Value) (r : List Cw) (w : World) (h : IsC w vl r) (hf : FitC r) (hl : r.length ≤ 1000000) (hg : Cm.Good 0 0 (cvs r)) :
    Calls Try.prog 24 #[vl] w fun E w' => ∃ v fe fp, E = .returned (.tuple #[v, .agg #[.int .i64 fe, .int .i64 fp]]) ∧ Hid (fe = 0 ∧ fp = 0) ∧ OwnS w.heap.size w' v (Sm.told 0 (cvs r)) ∧ Below w.heap.size w w' := by
  refine (of_any vl r w h hf hl).mono ?_
  rintro E w' ⟨v, rfl, own, bel⟩
  obtain ⟨e1, e2⟩ := fol_none hg
  rw [e2] at own
  refine ⟨v, 0, 0, ?_, hide ⟨rfl, rfl⟩, own, bel⟩
  rw [e1]
  rfl

end Go.Proofs.Ytklpbcdkgjoheaa
