/-
  DERIVED. GIVEN WITH THE SEED: THE CARDS: each row of YthndeolibilnnaaDoorRows.lean that lists a variable, with what it lists TIED to the program's text (the seventh form; the later family's looks); each row that meets fmt, with fmt's text TOLD by the authors' own Lean function (tested against real Go, not proved from fmt's source: count such statements apart). THE CARD IS WHAT COUNTS. Prove the row's statement (the work); the ties are given (YthndeolibilnnaaDoorTie.lean); close each card by the builder's one call (the guide's Derived/Test/ToyasCard.lean, 'card_holds'). Laid BY PROGRAM, IN A SANDBOX (cutbox-door.mjs). By AI agents, Wed Nov 11 2026. No macro, syntax, notation, axiom, sorry.
-/
import Derived.Test.YthndeolibilnnaaDoorRows
import GoSem.ClaimSeven
namespace Go.Proofs.YthndeolibilnnaaDoor
namespace Rows

/-- THE TIED CARD OF 'lagleashlaw20.RoleNames'. -/
def roleNamesCard : Claim7 := { stood := { row := roleNamesRow, standIns := [], harness := (true, "435628c5bffe7c6856fb1c9cd23f196eadf86cb96f0013ac10e05710e43c25d4"), looks := false }, kinds := [], alts := [], laidByText := true, laidKinds := [.data], laidTests := true, laidLooks := .later }
def RoleNamesCardSaid : Prop := Claim7.holds Tryd.pinned (.plain (OpenSpec.ofChange roleNamesSpec)) roleNamesCard

/-- THE TIED CARD OF 'lagleashlaw20.RoleCalls'. -/
def roleCallsCard : Claim7 := { stood := { row := roleCallsRow, standIns := [], harness := (true, "435628c5bffe7c6856fb1c9cd23f196eadf86cb96f0013ac10e05710e43c25d4"), looks := false }, kinds := [], alts := [], laidByText := true, laidKinds := [.data], laidTests := true, laidLooks := .later }
def RoleCallsCardSaid : Prop := Claim7.holds Tryd.pinned (.plain (OpenSpec.ofChange roleCallsSpec)) roleCallsCard

/-- THE TIED CARD OF 'lagleashlaw20.RoleWays'. -/
def roleWaysCard : Claim7 := { stood := { row := roleWaysRow, standIns := [], harness := (true, "435628c5bffe7c6856fb1c9cd23f196eadf86cb96f0013ac10e05710e43c25d4"), looks := false }, kinds := [], alts := [], laidByText := true, laidKinds := [.data], laidTests := true, laidLooks := .later }
def RoleWaysCardSaid : Prop := Claim7.holds Tryd.pinned (.plain (OpenSpec.ofChange roleWaysSpec)) roleWaysCard

/-- THE TIED CARD OF 'lagleashlaw20.RoleRound'. -/
def roleRoundCard : Claim7 := { stood := { row := roleRoundRow, standIns := [], harness := (true, "435628c5bffe7c6856fb1c9cd23f196eadf86cb96f0013ac10e05710e43c25d4"), looks := false }, kinds := [], alts := [], laidByText := true, laidKinds := [.data], laidTests := true, laidLooks := .later }
def RoleRoundCardSaid : Prop := Claim7.holds Tryd.pinned (.plain (OpenSpec.ofChange roleRoundSpec)) roleRoundCard

/-- THE SECOND FORM's CARD OF 'lagleashlaw20.RoleNames'. -/
def roleNamesUptoCard : Claim7 := { stood := { row := roleNamesUptoRow, standIns := [], harness := (true, "435628c5bffe7c6856fb1c9cd23f196eadf86cb96f0013ac10e05710e43c25d4"), looks := false }, kinds := [], alts := [], laidByText := true, laidKinds := [.data], laidTests := true, laidLooks := .later }
def RoleNamesUptoCardSaid : Prop := Claim7.holds Tryd.pinned (.plain (OpenSpec.upto roleNamesSpec)) roleNamesUptoCard

/-- THE SECOND FORM's CARD OF 'lagleashlaw20.RoleCalls'. -/
def roleCallsUptoCard : Claim7 := { stood := { row := roleCallsUptoRow, standIns := [], harness := (true, "435628c5bffe7c6856fb1c9cd23f196eadf86cb96f0013ac10e05710e43c25d4"), looks := false }, kinds := [], alts := [], laidByText := true, laidKinds := [.data], laidTests := true, laidLooks := .later }
def RoleCallsUptoCardSaid : Prop := Claim7.holds Tryd.pinned (.plain (OpenSpec.upto roleCallsSpec)) roleCallsUptoCard

/-- THE SECOND FORM's CARD OF 'lagleashlaw20.RoleWays'. -/
def roleWaysUptoCard : Claim7 := { stood := { row := roleWaysUptoRow, standIns := [], harness := (true, "435628c5bffe7c6856fb1c9cd23f196eadf86cb96f0013ac10e05710e43c25d4"), looks := false }, kinds := [], alts := [], laidByText := true, laidKinds := [.data], laidTests := true, laidLooks := .later }
def RoleWaysUptoCardSaid : Prop := Claim7.holds Tryd.pinned (.plain (OpenSpec.upto roleWaysSpec)) roleWaysUptoCard

/-- THE SECOND FORM's CARD OF 'lagleashlaw20.RoleRound'. -/
def roleRoundUptoCard : Claim7 := { stood := { row := roleRoundUptoRow, standIns := [], harness := (true, "435628c5bffe7c6856fb1c9cd23f196eadf86cb96f0013ac10e05710e43c25d4"), looks := false }, kinds := [], alts := [], laidByText := true, laidKinds := [.data], laidTests := true, laidLooks := .later }
def RoleRoundUptoCardSaid : Prop := Claim7.holds Tryd.pinned (.plain (OpenSpec.upto roleRoundSpec)) roleRoundUptoCard
end Rows
end Go.Proofs.YthndeolibilnnaaDoor
