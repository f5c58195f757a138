/-
  DERIVED. GIVEN WITH THE SEED: THE CARDS: each row of YtpifdeoepppadaaGreatDoorRows.lean that lists a variable, with what it lists TIED to the program's text (the seventh form; the later family's looks); each row that meets fmt, with fmt's text TOLD by the authors' own Lean function (tested against real Go, not proved from fmt's source: count such statements apart). THE CARD IS WHAT COUNTS. Prove the row's statement (the work); the ties are given (YtpifdeoepppadaaGreatDoorTie.lean); close each card by the builder's one call (the guide's Derived/Test/ToyasCard.lean, 'card_holds'). Laid BY PROGRAM, IN A SANDBOX (cutbox-door.mjs). By AI agents, Wed Nov 11 2026. No macro, syntax, notation, axiom, sorry.
-/
import Derived.Test.YtpifdeoepppadaaGreatDoorRows
import GoSem.ClaimSeven
namespace Go.Proofs.YtpifdeoepppadaaGreatDoor
namespace Rows

/-- THE TIED CARD OF 'lagleashlaw21.RestartNames'. -/
def restartNamesCard : Claim7 := { stood := { row := restartNamesRow, standIns := [], harness := (true, "f76dfdf3ad0a0d541f8541acbe452d4976aa922f1e39feb9ad183f6878d52c56"), looks := false }, kinds := [], alts := [], laidByText := true, laidKinds := [.data], laidTests := true, laidLooks := .later }
def RestartNamesCardSaid : Prop := Claim7.holds Tryz.pinned (.plain (OpenSpec.ofChange restartNamesSpec)) restartNamesCard

/-- THE TIED CARD OF 'lagleashlaw21.RestartNil'. -/
def restartNilCard : Claim7 := { stood := { row := restartNilRow, standIns := [], harness := (true, "f76dfdf3ad0a0d541f8541acbe452d4976aa922f1e39feb9ad183f6878d52c56"), looks := false }, kinds := [], alts := [], laidByText := true, laidKinds := [.data], laidTests := true, laidLooks := .later }
def RestartNilCardSaid : Prop := Claim7.holds Tryz.pinned (.plain (OpenSpec.ofChange restartNilSpec)) restartNilCard

/-- THE TIED CARD OF 'lagleashlaw21.RestartStands'. -/
def restartStandsCard : Claim7 := { stood := { row := restartStandsRow, standIns := [], harness := (true, "f76dfdf3ad0a0d541f8541acbe452d4976aa922f1e39feb9ad183f6878d52c56"), looks := false }, kinds := [], alts := [], laidByText := true, laidKinds := [.data], laidTests := true, laidLooks := .later }
def RestartStandsCardSaid : Prop := Claim7.holds Tryz.pinned (.plain (OpenSpec.ofChange restartStandsSpec)) restartStandsCard

/-- THE TIED CARD OF 'lagleashlaw21.RestartAgain'. -/
def restartAgainCard : Claim7 := { stood := { row := restartAgainRow, standIns := [], harness := (true, "f76dfdf3ad0a0d541f8541acbe452d4976aa922f1e39feb9ad183f6878d52c56"), looks := false }, kinds := [], alts := [], laidByText := true, laidKinds := [.data], laidTests := true, laidLooks := .later }
def RestartAgainCardSaid : Prop := Claim7.holds Tryz.pinned (.plain (OpenSpec.ofChange restartAgainSpec)) restartAgainCard

/-- THE SECOND FORM's CARD OF 'lagleashlaw21.RestartNames'. -/
def restartNamesUptoCard : Claim7 := { stood := { row := restartNamesUptoRow, standIns := [], harness := (true, "f76dfdf3ad0a0d541f8541acbe452d4976aa922f1e39feb9ad183f6878d52c56"), looks := false }, kinds := [], alts := [], laidByText := true, laidKinds := [.data], laidTests := true, laidLooks := .later }
def RestartNamesUptoCardSaid : Prop := Claim7.holds Tryz.pinned (.plain (OpenSpec.upto restartNamesSpec)) restartNamesUptoCard

/-- THE SECOND FORM's CARD OF 'lagleashlaw21.RestartNil'. -/
def restartNilUptoCard : Claim7 := { stood := { row := restartNilUptoRow, standIns := [], harness := (true, "f76dfdf3ad0a0d541f8541acbe452d4976aa922f1e39feb9ad183f6878d52c56"), looks := false }, kinds := [], alts := [], laidByText := true, laidKinds := [.data], laidTests := true, laidLooks := .later }
def RestartNilUptoCardSaid : Prop := Claim7.holds Tryz.pinned (.plain (OpenSpec.upto restartNilSpec)) restartNilUptoCard

/-- THE SECOND FORM's CARD OF 'lagleashlaw21.RestartStands'. -/
def restartStandsUptoCard : Claim7 := { stood := { row := restartStandsUptoRow, standIns := [], harness := (true, "f76dfdf3ad0a0d541f8541acbe452d4976aa922f1e39feb9ad183f6878d52c56"), looks := false }, kinds := [], alts := [], laidByText := true, laidKinds := [.data], laidTests := true, laidLooks := .later }
def RestartStandsUptoCardSaid : Prop := Claim7.holds Tryz.pinned (.plain (OpenSpec.upto restartStandsSpec)) restartStandsUptoCard

/-- THE SECOND FORM's CARD OF 'lagleashlaw21.RestartAgain'. -/
def restartAgainUptoCard : Claim7 := { stood := { row := restartAgainUptoRow, standIns := [], harness := (true, "f76dfdf3ad0a0d541f8541acbe452d4976aa922f1e39feb9ad183f6878d52c56"), looks := false }, kinds := [], alts := [], laidByText := true, laidKinds := [.data], laidTests := true, laidLooks := .later }
def RestartAgainUptoCardSaid : Prop := Claim7.holds Tryz.pinned (.plain (OpenSpec.upto restartAgainSpec)) restartAgainUptoCard
end Rows
end Go.Proofs.YtpifdeoepppadaaGreatDoor
