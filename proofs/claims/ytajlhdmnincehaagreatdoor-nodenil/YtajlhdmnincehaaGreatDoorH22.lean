/- Texts of one layer, one behind the other. -/
import Derived.Test.YtajlhdmnincehaaGreatDoorH21
import Derived.Test.YtajlhdmnincehaaGreatDoorH2
import Derived.Test.YtajlhdmnincehaaGreatDoorH7
/- The program's restart (layer 21): is a state made; its guard; a call's steps. -/
namespace Go.Proofs.YtajlhdmnincehaaGreatDoor
open Go.RowKit
set_option linter.unusedVariables false

theorem pmade_any (p q : Nat) (w : World) (hc : w.cell? ⟨p, 0, none⟩ = some (.pointer (some ⟨q, 0, none⟩))) :
    Calls Tryz.prog 55 #[.pointer (some ⟨p, 0, none⟩)] w fun E w' => E = .returned (.bool true) ∧ w = w' := by
  go_enter Tryz.func55, Tryz.ntmps55
  go_wp2
  go_ret
  exact ⟨rfl, rfl⟩


/-- What a state's guard answers. -/
theorem pguard_any (p q : Nat) (F : Nat → Prop) (w : World) (st : Dm.Ds) (off : Bool) (h : Pk q F w st) (h0 : w.cell? ⟨p, 0, none⟩ = some (.pointer (some ⟨q, 0, none⟩))) (h1 : w.cell? ⟨p, 1, none⟩ = some (.bool off)) :
    Calls Tryz.prog 93 #[.pointer (some ⟨p, 0, none⟩)] w fun E w' => E = .returned (.int .i64 (if (off || !st.on) = true then 6 else 0)) ∧ w = w' := by
  have HM := hide (pmade_any p q w h0)
  have HO := hide (on_any q F w st h)
  clear h
  generalize st.on = on at *
  cases off
  · cases on
    all_goals
      simp only [Bool.false_or, Bool.not_true, Bool.not_false, if_true, Bool.false_eq_true, if_false]
      go_enter Tryz.func93, Tryz.ntmps93
      go_wp2_with fail
      refine HM.out.mono ?_
      rintro E w1 ⟨rfl, rfl⟩
      clear HM
      go_wp2_with fail
      refine HO.out.mono ?_
      rintro E w1 ⟨rfl, rfl⟩
      clear HO
      go_wp2
      go_ret
      exact ⟨rfl, rfl⟩
  · simp only [Bool.true_or, if_true]
    go_enter Tryz.func93, Tryz.ntmps93
    go_wp2_with fail
    refine HM.out.mono ?_
    rintro E w1 ⟨rfl, rfl⟩
    clear HM HO
    go_wp2
    go_ret
    exact ⟨rfl, rfl⟩


/-- A call: its steps in their order; at an ErrOff the state is broken. -/
theorem pcall_any (v : Value) (p B n : Nat) (fs : List Value) (w : World) (Q : Int → World → Prop) (hn : fs.length = n) (hl : n ≤ 100) (hB : w.heap[B]? = some (.cells fs.toArray 172 (0, 0))) (h : Run B Q fs w) (hst : ∀ W, Q 6 W → v = .pointer (some ⟨p, 0, none⟩) ∧ ∃ cs b, W.heap[p]? = some (.cells cs 107 (0, 0)) ∧ cs[1]? = some (.bool b)) :
    Calls Tryz.prog 92 #[v, .slice (some ⟨B, 0, none⟩) n n] w fun E w' => ∃ e W, E = .returned (.int .i64 e) ∧ Q e W ∧ ((e ≠ 6 ∧ w' = W) ∨ (e = 6 ∧ w' = W.setCell ⟨p, 1, none⟩ (.bool true))) := by
  have HO := hide (inorder_any B n fs w Q hn hl hB h)
  have HS := hide hst
  clear h hB hst hn hl
  go_enter Tryz.func92, Tryz.ntmps92
  go_wp2_with fail
  refine HO.out.mono ?_
  rintro E W ⟨e, rfl, hq⟩
  clear HO
  by_cases he : e = 6
  · subst he
    obtain ⟨rfl, cs, b, x1, x2⟩ := HS.out W hq
    have c1 := blk_cell x1 1 x2
    have f1 := blk_froz x1 1
    have HQ := hide hq
    clear hq x1 x2 HS
    go_wp2
    go_ret
    exact ⟨6, W, rfl, HQ.out, .inr ⟨rfl, rfl⟩⟩
  · have he' : (e == 6) = false := by simpa using he
    have HQ := hide hq
    clear hq HS
    go_wp2
    go_ret
    exact ⟨e, _, rfl, HQ.out, .inl ⟨he, rfl⟩⟩

end Go.Proofs.YtajlhdmnincehaaGreatDoor

/- The program's restart (layer 21): cells of a state are written. -/
namespace Go.Proofs.YtajlhdmnincehaaGreatDoor
open Go.RowKit
set_option linter.unusedVariables false

/-- A page is written into a state. -/
theorem put_page {V : World} {p q : Nat} {t : TypeId} {off : Bool} {y : Pm.Pg} {vw vr vs : Value} {en : Int} (hP : V.heap[p]? = some (.cells (stC q off y vw en vr vs) t (0, 0))) (x : Pm.Pg) :
    ∃ V', ((((((V.setCell ⟨p, 2, none⟩ (.int .i64 x.e)).setCell ⟨p, 3, none⟩ (.int .u8 x.r)).setCell ⟨p, 4, none⟩ (.int .i64 x.a)).setCell ⟨p, 5, none⟩ (.int .u8 x.p)).setCell ⟨p, 6, none⟩ (.int .i64 x.f)).setCell ⟨p, 7, none⟩ (.int .i64 x.b)) = V' ∧ V'.heap[p]? = some (.cells (stC q off x vw en vr vs) t (0, 0)) ∧ V.grownBy V' (some p) ∧ ∀ j, V.frozen? ⟨p, j, none⟩ = false := by
  have q0 : (V.setCell ⟨p, 2, none⟩ (.int .i64 x.e)).heap[p]? = some (.cells #[.pointer (some ⟨q, 0, none⟩), .bool off, .int .i64 x.e, .int .u8 y.r, .int .i64 y.a, .int .u8 y.p, .int .i64 y.f, .int .i64 y.b, vw, .int .i64 en, .slice none 0 0, vr, vs] t (0, 0)) := set_cells hP 2 (.int .i64 x.e)
  have q1 : ((V.setCell ⟨p, 2, none⟩ (.int .i64 x.e)).setCell ⟨p, 3, none⟩ (.int .u8 x.r)).heap[p]? = some (.cells #[.pointer (some ⟨q, 0, none⟩), .bool off, .int .i64 x.e, .int .u8 x.r, .int .i64 y.a, .int .u8 y.p, .int .i64 y.f, .int .i64 y.b, vw, .int .i64 en, .slice none 0 0, vr, vs] t (0, 0)) := set_cells q0 3 (.int .u8 x.r)
  have q2 : (((V.setCell ⟨p, 2, none⟩ (.int .i64 x.e)).setCell ⟨p, 3, none⟩ (.int .u8 x.r)).setCell ⟨p, 4, none⟩ (.int .i64 x.a)).heap[p]? = some (.cells #[.pointer (some ⟨q, 0, none⟩), .bool off, .int .i64 x.e, .int .u8 x.r, .int .i64 x.a, .int .u8 y.p, .int .i64 y.f, .int .i64 y.b, vw, .int .i64 en, .slice none 0 0, vr, vs] t (0, 0)) := set_cells q1 4 (.int .i64 x.a)
  have q3 : ((((V.setCell ⟨p, 2, none⟩ (.int .i64 x.e)).setCell ⟨p, 3, none⟩ (.int .u8 x.r)).setCell ⟨p, 4, none⟩ (.int .i64 x.a)).setCell ⟨p, 5, none⟩ (.int .u8 x.p)).heap[p]? = some (.cells #[.pointer (some ⟨q, 0, none⟩), .bool off, .int .i64 x.e, .int .u8 x.r, .int .i64 x.a, .int .u8 x.p, .int .i64 y.f, .int .i64 y.b, vw, .int .i64 en, .slice none 0 0, vr, vs] t (0, 0)) := set_cells q2 5 (.int .u8 x.p)
  have q4 : (((((V.setCell ⟨p, 2, none⟩ (.int .i64 x.e)).setCell ⟨p, 3, none⟩ (.int .u8 x.r)).setCell ⟨p, 4, none⟩ (.int .i64 x.a)).setCell ⟨p, 5, none⟩ (.int .u8 x.p)).setCell ⟨p, 6, none⟩ (.int .i64 x.f)).heap[p]? = some (.cells #[.pointer (some ⟨q, 0, none⟩), .bool off, .int .i64 x.e, .int .u8 x.r, .int .i64 x.a, .int .u8 x.p, .int .i64 x.f, .int .i64 y.b, vw, .int .i64 en, .slice none 0 0, vr, vs] t (0, 0)) := set_cells q3 6 (.int .i64 x.f)
  have q5 : ((((((V.setCell ⟨p, 2, none⟩ (.int .i64 x.e)).setCell ⟨p, 3, none⟩ (.int .u8 x.r)).setCell ⟨p, 4, none⟩ (.int .i64 x.a)).setCell ⟨p, 5, none⟩ (.int .u8 x.p)).setCell ⟨p, 6, none⟩ (.int .i64 x.f)).setCell ⟨p, 7, none⟩ (.int .i64 x.b)).heap[p]? = some (.cells #[.pointer (some ⟨q, 0, none⟩), .bool off, .int .i64 x.e, .int .u8 x.r, .int .i64 x.a, .int .u8 x.p, .int .i64 x.f, .int .i64 x.b, vw, .int .i64 en, .slice none 0 0, vr, vs] t (0, 0)) := set_cells q4 7 (.int .i64 x.b)
  exact ⟨_, rfl, q5, grown_trans (grown_trans (grown_trans (grown_trans (grown_trans (grown_setCell V ⟨p, 2, none⟩ (.int .i64 x.e)) (grown_setCell _ ⟨p, 3, none⟩ (.int .u8 x.r))) (grown_setCell _ ⟨p, 4, none⟩ (.int .i64 x.a))) (grown_setCell _ ⟨p, 5, none⟩ (.int .u8 x.p))) (grown_setCell _ ⟨p, 6, none⟩ (.int .i64 x.f))) (grown_setCell _ ⟨p, 7, none⟩ (.int .i64 x.b)), blk_froz hP⟩

end Go.Proofs.YtajlhdmnincehaaGreatDoor
