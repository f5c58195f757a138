/-
  DERIVED. GIVEN WITH THE SEED: THE CARDS: each row of YtjemlgdkjilnoaaGreatDoorRows.lean that lists a variable, with what it lists TIED to the program's text (the seventh form; the later family's looks); each row that meets fmt, with fmt's text TOLD by the authors' own Lean function (tested against real Go, not proved from fmt's source: count such statements apart). THE CARD IS WHAT COUNTS. Prove the row's statement (the work); the ties are given (YtjemlgdkjilnoaaGreatDoorTie.lean); close each card by the builder's one call (the guide's Derived/Test/ToyasCard.lean, 'card_holds'). Laid BY PROGRAM, IN A SANDBOX (cutbox-door.mjs). By AI agents, Wed Nov 11 2026. No macro, syntax, notation, axiom, sorry.
-/
import Derived.Test.YtjemlgdkjilnoaaGreatDoorRows
import GoSem.ClaimSeven
namespace Go.Proofs.YtjemlgdkjilnoaaGreatDoor
namespace Rows

/-- THE TIED CARD OF 'lagleashlaw22.ReconcileNames'. -/
def reconcileNamesCard : Claim7 := { stood := { row := reconcileNamesRow, standIns := [], harness := (true, "18c99b16b6a33988e3629bfa210ff532b7f8e84fc4d5b72e46a6c4515535b34f"), looks := false }, kinds := [], alts := [], laidByText := true, laidKinds := [.data], laidTests := true, laidLooks := .later }
def ReconcileNamesCardSaid : Prop := Claim7.holds Tryz.pinned (.plain (OpenSpec.ofChange reconcileNamesSpec)) reconcileNamesCard

/-- THE TIED CARD OF 'lagleashlaw22.ReconcileNil'. -/
def reconcileNilCard : Claim7 := { stood := { row := reconcileNilRow, standIns := [], harness := (true, "18c99b16b6a33988e3629bfa210ff532b7f8e84fc4d5b72e46a6c4515535b34f"), looks := false }, kinds := [], alts := [], laidByText := true, laidKinds := [.data], laidTests := true, laidLooks := .later }
def ReconcileNilCardSaid : Prop := Claim7.holds Tryz.pinned (.plain (OpenSpec.ofChange reconcileNilSpec)) reconcileNilCard

/-- THE TIED CARD OF 'lagleashlaw22.ReconcileLeft'. -/
def reconcileLeftCard : Claim7 := { stood := { row := reconcileLeftRow, standIns := [], harness := (true, "18c99b16b6a33988e3629bfa210ff532b7f8e84fc4d5b72e46a6c4515535b34f"), looks := false }, kinds := [], alts := [], laidByText := true, laidKinds := [.data], laidTests := true, laidLooks := .later }
def ReconcileLeftCardSaid : Prop := Claim7.holds Tryz.pinned (.plain (OpenSpec.ofChange reconcileLeftSpec)) reconcileLeftCard

/-- THE SECOND FORM's CARD OF 'lagleashlaw22.ReconcileNames'. -/
def reconcileNamesUptoCard : Claim7 := { stood := { row := reconcileNamesUptoRow, standIns := [], harness := (true, "18c99b16b6a33988e3629bfa210ff532b7f8e84fc4d5b72e46a6c4515535b34f"), looks := false }, kinds := [], alts := [], laidByText := true, laidKinds := [.data], laidTests := true, laidLooks := .later }
def ReconcileNamesUptoCardSaid : Prop := Claim7.holds Tryz.pinned (.plain (OpenSpec.upto reconcileNamesSpec)) reconcileNamesUptoCard

/-- THE SECOND FORM's CARD OF 'lagleashlaw22.ReconcileNil'. -/
def reconcileNilUptoCard : Claim7 := { stood := { row := reconcileNilUptoRow, standIns := [], harness := (true, "18c99b16b6a33988e3629bfa210ff532b7f8e84fc4d5b72e46a6c4515535b34f"), looks := false }, kinds := [], alts := [], laidByText := true, laidKinds := [.data], laidTests := true, laidLooks := .later }
def ReconcileNilUptoCardSaid : Prop := Claim7.holds Tryz.pinned (.plain (OpenSpec.upto reconcileNilSpec)) reconcileNilUptoCard

/-- THE SECOND FORM's CARD OF 'lagleashlaw22.ReconcileLeft'. -/
def reconcileLeftUptoCard : Claim7 := { stood := { row := reconcileLeftUptoRow, standIns := [], harness := (true, "18c99b16b6a33988e3629bfa210ff532b7f8e84fc4d5b72e46a6c4515535b34f"), looks := false }, kinds := [], alts := [], laidByText := true, laidKinds := [.data], laidTests := true, laidLooks := .later }
def ReconcileLeftUptoCardSaid : Prop := Claim7.holds Tryz.pinned (.plain (OpenSpec.upto reconcileLeftSpec)) reconcileLeftUptoCard
end Rows
end Go.Proofs.YtjemlgdkjilnoaaGreatDoor
