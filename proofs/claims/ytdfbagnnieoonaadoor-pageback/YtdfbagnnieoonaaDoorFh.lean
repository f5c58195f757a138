/- FrameTorn: what it gathers. -/
import Derived.Test.YtdfbagnnieoonaaDoorFg
import Derived.Test.YtdfbagnnieoonaaDoorPick
namespace Go.Proofs.YtdfbagnnieoonaaDoor
open Go.RowKit
set_option linter.unusedVariables false

theorem Tryd.info3 : (Tryd.prog.info? 3).map (fun i => (i.zero, i.size, i.bytes)) = some (some (.int .i64 0), 1, 8) := by kernel_rfl

/-- Where the first k frames end. -/
def ens (l : List (List Int)) (k : Nat) : List Int := (List.range k).map fun i => ((Fm.cat (l.take (i + 1))).length : Int)

theorem ens_len (l : List (List Int)) (k : Nat) : (ens l k).length = k := by simp [ens]
theorem ens_next (l : List (List Int)) (k : Nat) : ens l (k + 1) = ens l k ++ [((Fm.cat (l.take (k + 1))).length : Int)] := by
  unfold ens
  rw [List.range_succ, List.map_append]
  rfl
theorem ens_at (l : List (List Int)) (k i : Nat) (h : i < k) : (ens l k).getD i 0 = ((Fm.cat (l.take (i + 1))).length : Int) := by
  simp [ens, List.getD, h]

theorem cat_small : ∀ (l : List (List Int)), (∀ r ∈ l, r.length ≤ 400) → (Fm.cat l).length ≤ 403 * l.length
  | [], _ => by simp [Fm.cat]
  | r :: l, h => by
    have h1 := cat_small l fun q hq => h q (by simp [hq])
    have h2 := h r (by simp)
    have h3 := Fm.sz3 (n := r.length) (by omega)
    simp only [Fm.cat, List.length_append, List.length_cons, Fm.frm_len]
    omega

theorem cat_next {l : List (List Int)} {k : Nat} {z : List Int} (h : l[k]? = some z) (hz : z.length ≤ 131072) : apd (Fm.cat (l.take k)) z = Fm.cat (l.take (k + 1)) := by
  obtain ⟨h1, h2⟩ := List.getElem?_eq_some_iff.1 h
  unfold apd
  rw [if_pos hz, List.take_succ_eq_append_getElem h1, Fm.cat_app, Fm.cat_one, h2]

/-- Own rows of unlike types lie apart. -/
theorem own_unlike {w : World} {u v : Value} {k k' : IntKind} {e e' b1 b2 : Nat} {ys zs : List Int} (h : Own k e b1 w u ys) (hr : Own k' e' b2 w v zs) (hne : e ≠ e') : u.ownBlock = none ∨ u.ownBlock ≠ v.ownBlock := by
  cases hu : u.ownBlock with
  | none => exact .inl rfl
  | some b =>
    refine .inr fun e'' => ?_
    obtain ⟨c1, h1⟩ := h.type hu
    obtain ⟨c2, h2⟩ := hr.type e''.symm
    rw [h1] at h2
    simp at h2
    exact hne h2.2

end Go.Proofs.YtdfbagnnieoonaaDoor
