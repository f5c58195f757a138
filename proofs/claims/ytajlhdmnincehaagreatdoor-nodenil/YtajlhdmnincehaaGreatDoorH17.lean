/- Texts of one layer, one behind the other. -/
import Derived.Test.YtajlhdmnincehaaGreatDoorH3
import Derived.Test.YtajlhdmnincehaaGreatDoorH2
import Derived.Laws.BytesArg
import Derived.Test.YtajlhdmnincehaaGreatDoorH1
import Derived.Test.YtajlhdmnincehaaGreatDoorH4
/- The contracts of batch's reader's op and of Read. -/
namespace Go.Proofs.YtajlhdmnincehaaGreatDoor
open Go.RowKit
set_option linter.unusedVariables false


/-- An op that is read is small. -/
def SmallO (l : List Bm.Ov) : Prop := ∀ o ∈ l, o.k.size ≤ 16 ∧ o.v.size ≤ 32

theorem SmallO.fit {l : List Bm.Ov} (h : SmallO l) : FitO l := fun o ho => by have := h o ho; omega


theorem small_of {l : List Bm.Ov} (h : Bm.chkL l = 0) : SmallO l := by
  intro o ho
  have := Om.chk_ok' ((Bm.chkL_zero h).2.2 o ho)
  simp only [Bm.Ov.kl, Bm.Ov.vl, ← Lib.size_eq] at this
  omega



end Go.Proofs.YtajlhdmnincehaaGreatDoor

/- The contracts of the document's Next and Read of a batch. -/
namespace Go.Proofs.YtajlhdmnincehaaGreatDoor
open Go.RowKit
set_option linter.unusedVariables false

namespace Bm
open Vm Om

/-- What a reader has come to that began at a0, so many ops being told. -/
def LA (bs : List Int) (a0 c : Nat) (l : List Ov) (a : Nat) (bad : Bool) (ah : List UInt8) : Prop :=
  (bad = false ∧ c ≤ 8 ∧ enc c <+: bs.drop a0 ∧ encL [] l <+: bs.drop (a0 + sz c) ∧ a = a0 + sz c + (encL [] l).length ∧ ah = lst [] l ∧ ∀ o ∈ l, o.shape) ∨ (bad = true ∧ NB (bs.drop a0))








end Bm







end Go.Proofs.YtajlhdmnincehaaGreatDoor
