/- Texts of one layer, one behind the other. -/
import Derived.Test.YtabfihicdphjeaaG9
import Derived.Test.YtabfihicdphjeaaGK
import Derived.Deep.RegionLaw
import Derived.Test.YtabfihicdphjeaaG7
import Derived.Test.YtabfihicdphjeaaG4
import Derived.Deep.CutRange
/- The contract of the chapter's lists of starts ('of'), and of the two examples that open each law ('lives'). -/
namespace Go.Proofs.Ytabfihicdphjeaa
open Go.RowKit
set_option linter.unusedVariables false

/-- 'append(out, xs...)' of starts inside a region that draws its order. -/
theorem step_append_sts {ops : Array Oper} {o : Oper} {a : Act} {w : World} {K : Act → World → Prop} {Q : Exit → Act → World → Prop} {E : Prop} (hgd : o.guard = none) (s x : Operand)
    (ho : o.op = .call { callee := .builtin .append, args := #[s, x], argTypes := #[23, 23] })
    (base : Nat) (v : Value) (l : List Sm.S) (hs : a.eval s = v) (hown : OwnS base w v l) (vx : Value) (m : List Sm.S) (hx : a.eval x = vx) (his : RowS w vx m)
    (hlen : (l.length + m.length) * 16 ≤ 140737488355328) (hbase : base ≤ w.heap.size)
    (h : ∀ v' w', OwnS base w' v' (l ++ m) → Below base w w' → w.grownBy w' v.ownBlock → K (a.put o.dst v') w') :
    if Region.wanted o (yielded ops a.tmps) = true then Oper.wp Try.prog o a w K Q else E :=
  step_append_rows stc 2 16 stc_len (by decide) (by decide) (.agg #[.int .i64 0, .int .i64 0]) rfl hgd s x 23 ho 66 base Try.underlying23 Try.info66 v l hs hown vx m hx his (stc_one m) hlen hbase
    fun v' w' h1 h2 => h v' w' h1 ((Below.refl _ _).grown h2 hbase fun k hk => (OwnG.lt hown k hk).1) h2

/-- Numbers two by two. -/
def prs : List Int → List Sm.S
  | a :: b :: r => (a, b) :: prs r
  | _ => []

theorem prs_at : ∀ (zs : List Int) (k : Nat), 2 * k + 1 < zs.length → (prs zs)[k]? = some (zs.getD (2 * k) 0, zs.getD (2 * k + 1) 0)
  | [], _, h => by simp at h
  | [_], _, h => by simp at h
  | a :: b :: r, 0, _ => rfl
  | a :: b :: r, k + 1, h => by
    have := prs_at r k (by simp at h; omega)
    rw [prs, List.getElem?_cons_succ, this, show 2 * (k + 1) = 2 * k + 1 + 1 by omega]
    rfl

theorem prs_len : ∀ (zs : List Int), (prs zs).length = zs.length / 2
  | [] => rfl
  | [_] => by simp [prs]
  | a :: b :: r => by
    have := prs_len r
    simp [prs, this]
    omega

end Go.Proofs.Ytabfihicdphjeaa

/- The contract of the document's Check of starts. -/
namespace Go.Proofs.Ytabfihicdphjeaa
open Go.RowKit
set_option linter.unusedVariables false

/-- What the document's loop knows at the place k. -/
def CkI (l : List Sm.S) (en : Int) (k : Nat) : Prop := k = 0 ∨ ∃ (j : Nat) (s : Sm.S), k = j + 1 ∧ l[j]? = some s ∧ 0 < s.1 ∧ (l.map Prod.snd).headD 1 = 1 ∧ (Sm.Up en 0 0 l ↔ Sm.Up en s.1 s.2 (l.drop k))

end Go.Proofs.Ytabfihicdphjeaa

/- The contracts of the document's At, Trimmed and Fork of starts. -/
namespace Go.Proofs.Ytabfihicdphjeaa
open Go.RowKit
set_option linter.unusedVariables false

theorem beg_drop {l : List Sm.S} {k : Nat} {s : Sm.S} {n : Int} (h : l[k]? = some s) : Sm.beg n (l.drop k) = if s.2 ≤ n then s :: Sm.beg n (l.drop (k + 1)) else [] := by
  have hk := (List.getElem?_eq_some_iff.1 h).1
  rw [List.drop_eq_getElem_cons hk, (List.getElem?_eq_some_iff.1 h).2]
  rfl

end Go.Proofs.Ytabfihicdphjeaa

/- One commit as a row. -/
namespace Go.Proofs.Ytabfihicdphjeaa
open Go.RowKit
set_option linter.unusedVariables false

theorem FitC.one {e n : Int} {v : Value} {o : List Bm.Ov} (hf : FitO o) (hl : o.length * 40 ≤ 140737488351232) : FitC [⟨e, n, v, o⟩] := fun c hc => by rw [List.mem_singleton.1 hc]; exact ⟨hf, hl⟩

theorem one_row {w : World} {a : Nat} {e n : Int} {v : Value} {o : List Bm.Ov} {t : TypeId} (h : w.heap[a]? = some (.cells #[.int .i64 e, .int .i64 n, v] t (0, 0))) : RowC w (.slice (some ⟨a, 0, none⟩) 1 1) [⟨e, n, v, o⟩] := by
  refine .inr ⟨⟨a, 0, none⟩, 1, rfl, by simp, by simp [maxLen], fun j u hj => ?_⟩
  rw [add_at]
  simp only [ccells, ccell, List.append_nil] at hj
  match j, hj with
  | 0, hj => simp at hj; subst hj; exact blk_cell h 0 rfl
  | 1, hj => simp at hj; subst hj; exact blk_cell h 1 rfl
  | 2, hj => simp at hj; subst hj; exact blk_cell h 2 rfl
  | k + 3, hj => simp at hj

end Go.Proofs.Ytabfihicdphjeaa

/- The contract of starts' Grown. -/
namespace Go.Proofs.Ytabfihicdphjeaa
open Go.RowKit
set_option linter.unusedVariables false

/-- What Grown comes to: the error, the starts. -/
def grE (l : List Sm.S) (en e n : Int) (o : List Bm.Ov) : Int := if Sm.chk l en = 0 then (Cm.fol (Sm.lst l) en 0 [⟨e, n, o⟩]).1 else Sm.chk l en
def grL (l : List Sm.S) (en e n : Int) (o : List Bm.Ov) : List Sm.S := if grE l en e n o = 0 then Sm.grw l e n else []

theorem IsC.one {e n : Int} {v : Value} {o : List Bm.Ov} {w : World} {g : Nat} {e' : TypeId} {base : Nat} (h : OwnR e' base w (.slice (some ⟨g, 0, none⟩) 1 1) [⟨e, n, v, o⟩]) (hv : IsO w v o) (he : In64 e) (hn : In64 n) : IsC w (.slice (some ⟨g, 0, none⟩) 1 1) [⟨e, n, v, o⟩] :=
  ⟨h.row, fun c hc => by rw [List.mem_singleton.1 hc]; exact ⟨hv, he, hn⟩⟩

end Go.Proofs.Ytabfihicdphjeaa
