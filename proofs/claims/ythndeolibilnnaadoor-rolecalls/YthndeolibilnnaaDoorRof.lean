/- A page written over another one, and what stays. -/
import Derived.Test.YthndeolibilnnaaDoorRod
namespace Go.Proofs.YthndeolibilnnaaDoor
open Go.RowKit
set_option linter.unusedVariables false

theorem PgAt.put {V : World} {g : Nat} {x : Pm.Pg} (h : PgAt V g x) (y : Pm.Pg) :
    ∃ V', (((((V.setCell ⟨g, 0, none⟩ (.int .i64 y.e)).setCell ⟨g, 1, none⟩ (.int .u8 y.r)).setCell ⟨g, 2, none⟩ (.int .i64 y.a)).setCell ⟨g, 3, none⟩ (.int .u8 y.p)).setCell ⟨g, 4, none⟩ (.int .i64 y.f)).setCell ⟨g, 5, none⟩ (.int .i64 y.b) = V' ∧ PgAt V' g y ∧ (∀ (k : Nat) (z : Pm.Pg), PgAt V k z → k ≠ g → PgAt V' k z) ∧ (∀ (base : Nat) (w : World), Below base w V → base ≤ g → base ≤ V.heap.size → Below base w V') ∧ Six V g (.int .i64 x.e) (.int .u8 x.r) (.int .i64 x.a) (.int .u8 x.p) (.int .i64 x.f) (.int .i64 x.b) ∧ (∀ j, V.frozen? ⟨g, j, none⟩ = false) ∧ V'.heap.size = V.heap.size := by
  obtain ⟨V', hV, hB, gV, hs, fr, _⟩ := put6 h (.int .i64 y.e) (.int .u8 y.r) (.int .i64 y.a) (.int .u8 y.p) (.int .i64 y.f) (.int .i64 y.b)
  refine ⟨V', hV, hB, fun k z hk hne => (grown_other gV ⟨hne, hk.lt⟩).trans hk, fun base w hb h1 h2 => below_put hb gV h1 h2, hs, fr, ?_⟩
  rw [← hV]
  simp [go_sem]

theorem pr_err {x : Pm.Pg} {n : Int} (h : Pm.Ok x) (h1 : 0 ≤ n) (h2 : n ≤ 1048576) (hr : x.r ≠ 2) : Rol.prE x n = (if x.r = 1 then 10 else 9) ∧ Rol.pr x n = Pm.no := by
  have hk := Pm.ok_nums h
  have hE : Rol.prE x n = (if x.r = 1 then 10 else 9) := by
    unfold Rol.prE
    rw [if_pos (chk_is h), if_neg (by omega)]
    by_cases h1 : x.r = 1
    · rw [if_pos h1, if_pos h1]
    · rw [if_neg h1, if_neg h1, if_pos (by omega)]
  refine ⟨hE, ?_⟩
  unfold Rol.pr
  rw [if_neg (by rw [hE]; split <;> omega)]
theorem fk_yes {x : Pm.Pg} {n k : Int} (h : Pm.Ok x) (h1 : 0 ≤ n) (h2 : n ≤ 1048576) (h3 : 0 ≤ k) (h4 : k ≤ 1073741824) (hp : x.p = 1) : Rol.fkE x n k = 0 ∧ Rol.fk x n k = ⟨x.e, x.r, x.a, 2, n, k⟩ := by
  have hE : Rol.fkE x n k = 0 := by
    unfold Rol.fkE
    rw [if_pos (chk_is h), if_neg (by omega), if_pos hp]
  exact ⟨hE, by unfold Rol.fk; rw [if_pos hE]⟩
theorem nx_no {x : Pm.Pg} {p : Int} (q : Int) (h : Pm.Ok x) (hp : x.p ≠ p) : Rol.nxE x p = 15 ∧ Rol.nx x p q = Pm.no := by
  have hE : Rol.nxE x p = 15 := by
    unfold Rol.nxE
    rw [if_pos (chk_is h), if_neg hp]
  exact ⟨hE, by unfold Rol.nx; rw [if_neg (by rw [hE]; omega)]⟩
theorem nx_yes {x : Pm.Pg} {p : Int} (q : Int) (h : Pm.Ok x) (hp : x.p = p) : Rol.nxE x p = 0 ∧ Rol.nx x p q = ⟨x.e, x.r, x.a, q, x.f, x.b⟩ := by
  have hE : Rol.nxE x p = 0 := by
    unfold Rol.nxE
    rw [if_pos (chk_is h), if_pos hp]
  exact ⟨hE, by unfold Rol.nx; rw [if_pos hE]⟩
theorem rj_no {x : Pm.Pg} (h : Pm.Ok x) (hp : x.p ≠ 4) : Rol.nxE x 4 = 15 ∧ Rol.rj x = Pm.no := by
  have hE := (nx_no 0 h hp).1
  exact ⟨hE, by unfold Rol.rj; rw [if_neg (by rw [hE]; omega)]⟩
theorem rj_yes {x : Pm.Pg} (h : Pm.Ok x) (hp : x.p = 4) : Rol.nxE x 4 = 0 ∧ Rol.rj x = ⟨x.e, 2, 0, 0, 0, 0⟩ := by
  have hE := (nx_yes 0 h hp).1
  exact ⟨hE, by unfold Rol.rj; rw [if_pos hE]⟩
theorem he_no {x : Pm.Pg} {n : Int} (h : Pm.Ok x) (h1 : 1 ≤ n) (h2 : n ≤ 1048576) (hn : ¬ x.e < n) : Rol.heE x n = 0 ∧ Rol.heB x n = false ∧ Rol.he x n = x := by
  have hE : Rol.heE x n = 0 := by
    unfold Rol.heE
    rw [if_pos (chk_is h), if_neg (by omega)]
  exact ⟨hE, by unfold Rol.heB; rw [decide_eq_false hn, Bool.and_false], by unfold Rol.he; rw [if_pos hE, if_neg hn]⟩
theorem wr_is {x : Pm.Pg} (h : Pm.Ok x) : Rol.wrE x = if x.r = 2 then 11 else if x.r = 3 then 9 else 0 := by
  unfold Rol.wrE
  rw [if_pos (chk_is h)]
theorem rd_is {x : Pm.Pg} (h : Pm.Ok x) : Rol.rdE x = if x.r = 3 then 9 else 0 := by
  unfold Rol.rdE
  rw [if_pos (chk_is h)]

end Go.Proofs.YthndeolibilnnaaDoor
