/- A function that ranges over a function: its body, round by round. -/
import Derived.Test.YtadfbmglbaebiaaLnl
namespace Go.Proofs.Ytadfbmglbaebiaa
open Go.RowKit Go.Shelf
set_option linter.unusedVariables false

theorem Try.enters10 : ∀ args w, (callFunc 10 args).run Try.prog w = .ok (.enter 10 args) w := enters_of Try.func10 (by kernel_rfl) rfl

theorem Try.enters12 : ∀ args w, (callFunc 12 args).run Try.prog w = .ok (.enter 12 args) w := enters_of Try.func12 (by kernel_rfl) rfl

theorem Try.enters11 : ∀ args w, (callFunc 11 args).run Try.prog w = .ok (.enter 11 args) w := enters_of Try.func11 (by kernel_rfl) rfl

/-- What a function's body must come to, where it never panics. -/
def calmQ (Q : Exit → Act → World → Prop) : Exit → Act → World → Prop
  | .panic _, _, _ => False
  | e, a, w => Q e a w

theorem calm_wp {P : Program} {c : Code} {Q : Exit → Act → World → Prop} {a : Act} {w : World} (h : c.wp P (calmQ Q) a w) : c.wp P Q a w :=
  Go.wp_mono h fun e a w hq => by
    cases e <;> first | exact hq | exact hq.elim

/-- One round, the others hidden. -/
theorem rounds_cut {P : Program} {c : Code} {Q : Exit → Act → World → Prop} {n : Nat} {a : Act} {w : World} (h : ∀ R : Act → World → Prop, (∀ a w, Hid (Code.rounds P c Q n a w) → R a w) → c.wp P (Exit.then R Q) a w) : Code.rounds P c Q (n + 1) a w := by
  rw [rounds_succ]
  exact h _ fun a w h => h.out

end Go.Proofs.Ytadfbmglbaebiaa
