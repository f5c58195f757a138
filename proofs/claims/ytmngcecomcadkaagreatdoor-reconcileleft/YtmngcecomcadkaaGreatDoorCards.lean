/-
  DERIVED. GIVEN WITH THE SEED: THE CARDS: each row of YtmngcecomcadkaaGreatDoorRows.lean that lists a variable, with what it lists TIED to the program's text (the seventh form; the later family's looks); each row that meets fmt, with fmt's text TOLD by the authors' own Lean function (tested against real Go, not proved from fmt's source: count such statements apart). THE CARD IS WHAT COUNTS. Prove the row's statement (the work); the ties are given (YtmngcecomcadkaaGreatDoorTie.lean); close each card by the builder's one call (the guide's Derived/Test/ToyasCard.lean, 'card_holds'). Laid BY PROGRAM, IN A SANDBOX (cutbox-door.mjs). By AI agents, Wed Nov 11 2026. No macro, syntax, notation, axiom, sorry.
-/
import Derived.Test.YtmngcecomcadkaaGreatDoorRows
import GoSem.ClaimSeven
namespace Go.Proofs.YtmngcecomcadkaaGreatDoor
namespace Rows

/-- THE TIED CARD OF 'lagleashlaw22.ReconcileLeft'. -/
def reconcileLeftCard : Claim7 := { stood := { row := reconcileLeftRow, standIns := [], harness := (true, "31596695a523e5cc37d260f9d85ca51c3381edca15d5501551a7558052fc36ae"), looks := false }, kinds := [], alts := [], laidByText := true, laidKinds := [.data], laidTests := true, laidLooks := .later }
def ReconcileLeftCardSaid : Prop := Claim7.holds Tryz.pinned (.plain (OpenSpec.ofChange reconcileLeftSpec)) reconcileLeftCard

/-- THE SECOND FORM's CARD OF 'lagleashlaw22.ReconcileLeft'. -/
def reconcileLeftUptoCard : Claim7 := { stood := { row := reconcileLeftUptoRow, standIns := [], harness := (true, "31596695a523e5cc37d260f9d85ca51c3381edca15d5501551a7558052fc36ae"), looks := false }, kinds := [], alts := [], laidByText := true, laidKinds := [.data], laidTests := true, laidLooks := .later }
def ReconcileLeftUptoCardSaid : Prop := Claim7.holds Tryz.pinned (.plain (OpenSpec.upto reconcileLeftSpec)) reconcileLeftUptoCard
end Rows
end Go.Proofs.YtmngcecomcadkaaGreatDoor
