/-
  DERIVED. GIVEN WITH THE SEED: THE CARDS: each row of YtlmkaljjocflmaaGreatDoorRows.lean that lists a variable, with what it lists TIED to the program's text (the seventh form; the later family's looks); each row that meets fmt, with fmt's text TOLD by the authors' own Lean function (tested against real Go, not proved from fmt's source: count such statements apart). THE CARD IS WHAT COUNTS. Prove the row's statement (the work); the ties are given (YtlmkaljjocflmaaGreatDoorTie.lean); close each card by the builder's one call (the guide's Derived/Test/ToyasCard.lean, 'card_holds'). Laid BY PROGRAM, IN A SANDBOX (cutbox-door.mjs). By AI agents, Wed Nov 11 2026. No macro, syntax, notation, axiom, sorry.
-/
import Derived.Test.YtlmkaljjocflmaaGreatDoorRows
import GoSem.ClaimSeven
namespace Go.Proofs.YtlmkaljjocflmaaGreatDoor
namespace Rows

/-- THE TIED CARD OF 'lagleashlaw22.ReconcileLeft'. -/
def reconcileLeftCard : Claim7 := { stood := { row := reconcileLeftRow, standIns := [], harness := (true, "b94ba6008bc990ba92be1d3e3aa634b09621229f0aee8fc9ad7805e6b1aa1778"), looks := false }, kinds := [], alts := [], laidByText := true, laidKinds := [.data], laidTests := true, laidLooks := .later }
def ReconcileLeftCardSaid : Prop := Claim7.holds Tryz.pinned (.plain (OpenSpec.ofChange reconcileLeftSpec)) reconcileLeftCard

/-- THE TIED CARD OF 'lagleashlaw23.NodeNames'. -/
def nodeNamesCard : Claim7 := { stood := { row := nodeNamesRow, standIns := [], harness := (true, "b94ba6008bc990ba92be1d3e3aa634b09621229f0aee8fc9ad7805e6b1aa1778"), looks := false }, kinds := [], alts := [], laidByText := true, laidKinds := [.data], laidTests := true, laidLooks := .later }
def NodeNamesCardSaid : Prop := Claim7.holds Tryz.pinned (.plain (OpenSpec.ofChange nodeNamesSpec)) nodeNamesCard

/-- THE TIED CARD OF 'lagleashlaw23.NodeNil'. -/
def nodeNilCard : Claim7 := { stood := { row := nodeNilRow, standIns := [], harness := (true, "b94ba6008bc990ba92be1d3e3aa634b09621229f0aee8fc9ad7805e6b1aa1778"), looks := false }, kinds := [], alts := [], laidByText := true, laidKinds := [.data], laidTests := true, laidLooks := .later }
def NodeNilCardSaid : Prop := Claim7.holds Tryz.pinned (.plain (OpenSpec.ofChange nodeNilSpec)) nodeNilCard

/-- THE TIED CARD OF 'lagleashlaw23.NodeReads'. -/
def nodeReadsCard : Claim7 := { stood := { row := nodeReadsRow, standIns := [], harness := (true, "b94ba6008bc990ba92be1d3e3aa634b09621229f0aee8fc9ad7805e6b1aa1778"), looks := false }, kinds := [], alts := [], laidByText := true, laidKinds := [.data], laidTests := true, laidLooks := .later }
def NodeReadsCardSaid : Prop := Claim7.holds Tryz.pinned (.plain (OpenSpec.ofChange nodeReadsSpec)) nodeReadsCard

/-- THE TIED CARD OF 'lagleashlaw23.NodePair'. -/
def nodePairCard : Claim7 := { stood := { row := nodePairRow, standIns := [], harness := (true, "b94ba6008bc990ba92be1d3e3aa634b09621229f0aee8fc9ad7805e6b1aa1778"), looks := false }, kinds := [], alts := [], laidByText := true, laidKinds := [.data], laidTests := true, laidLooks := .later }
def NodePairCardSaid : Prop := Claim7.holds Tryz.pinned (.plain (OpenSpec.ofChange nodePairSpec)) nodePairCard

/-- THE SECOND FORM's CARD OF 'lagleashlaw22.ReconcileLeft'. -/
def reconcileLeftUptoCard : Claim7 := { stood := { row := reconcileLeftUptoRow, standIns := [], harness := (true, "b94ba6008bc990ba92be1d3e3aa634b09621229f0aee8fc9ad7805e6b1aa1778"), looks := false }, kinds := [], alts := [], laidByText := true, laidKinds := [.data], laidTests := true, laidLooks := .later }
def ReconcileLeftUptoCardSaid : Prop := Claim7.holds Tryz.pinned (.plain (OpenSpec.upto reconcileLeftSpec)) reconcileLeftUptoCard

/-- THE SECOND FORM's CARD OF 'lagleashlaw23.NodeNames'. -/
def nodeNamesUptoCard : Claim7 := { stood := { row := nodeNamesUptoRow, standIns := [], harness := (true, "b94ba6008bc990ba92be1d3e3aa634b09621229f0aee8fc9ad7805e6b1aa1778"), looks := false }, kinds := [], alts := [], laidByText := true, laidKinds := [.data], laidTests := true, laidLooks := .later }
def NodeNamesUptoCardSaid : Prop := Claim7.holds Tryz.pinned (.plain (OpenSpec.upto nodeNamesSpec)) nodeNamesUptoCard

/-- THE SECOND FORM's CARD OF 'lagleashlaw23.NodeNil'. -/
def nodeNilUptoCard : Claim7 := { stood := { row := nodeNilUptoRow, standIns := [], harness := (true, "b94ba6008bc990ba92be1d3e3aa634b09621229f0aee8fc9ad7805e6b1aa1778"), looks := false }, kinds := [], alts := [], laidByText := true, laidKinds := [.data], laidTests := true, laidLooks := .later }
def NodeNilUptoCardSaid : Prop := Claim7.holds Tryz.pinned (.plain (OpenSpec.upto nodeNilSpec)) nodeNilUptoCard

/-- THE SECOND FORM's CARD OF 'lagleashlaw23.NodeReads'. -/
def nodeReadsUptoCard : Claim7 := { stood := { row := nodeReadsUptoRow, standIns := [], harness := (true, "b94ba6008bc990ba92be1d3e3aa634b09621229f0aee8fc9ad7805e6b1aa1778"), looks := false }, kinds := [], alts := [], laidByText := true, laidKinds := [.data], laidTests := true, laidLooks := .later }
def NodeReadsUptoCardSaid : Prop := Claim7.holds Tryz.pinned (.plain (OpenSpec.upto nodeReadsSpec)) nodeReadsUptoCard

/-- THE SECOND FORM's CARD OF 'lagleashlaw23.NodePair'. -/
def nodePairUptoCard : Claim7 := { stood := { row := nodePairUptoRow, standIns := [], harness := (true, "b94ba6008bc990ba92be1d3e3aa634b09621229f0aee8fc9ad7805e6b1aa1778"), looks := false }, kinds := [], alts := [], laidByText := true, laidKinds := [.data], laidTests := true, laidLooks := .later }
def NodePairUptoCardSaid : Prop := Claim7.holds Tryz.pinned (.plain (OpenSpec.upto nodePairSpec)) nodePairUptoCard
end Rows
end Go.Proofs.YtlmkaljjocflmaaGreatDoor
