/-
  DERIVED. GIVEN WITH THE SEED: THE CARDS: each row of YtdfbagnnieoonaaDoorRows.lean that lists a variable, with what it lists TIED to the program's text (the seventh form; the later family's looks); each row that meets fmt, with fmt's text TOLD by the authors' own Lean function (tested against real Go, not proved from fmt's source: count such statements apart). THE CARD IS WHAT COUNTS. Prove the row's statement (the work); the ties are given (YtdfbagnnieoonaaDoorTie.lean); close each card by the builder's one call (the guide's Derived/Test/ToyasCard.lean, 'card_holds'). Laid BY PROGRAM, IN A SANDBOX (cutbox-door.mjs). By AI agents, Wed Nov 11 2026. No macro, syntax, notation, axiom, sorry.
-/
import Derived.Test.YtdfbagnnieoonaaDoorRows
import GoSem.ClaimSeven
namespace Go.Proofs.YtdfbagnnieoonaaDoor
namespace Rows

/-- THE TIED CARD OF 'lagleashlaw10.PageNames'. -/
def pageNamesCard : Claim7 := { stood := { row := pageNamesRow, standIns := [], harness := (true, "59fdc3bc6a60229a8958676c09baef84107e6aa5ee60a040732494b5d6c12372"), looks := false }, kinds := [], alts := [], laidByText := true, laidKinds := [.data], laidTests := true, laidLooks := .later }
def PageNamesCardSaid : Prop := Claim7.holds Tryd.pinned (.plain (OpenSpec.ofChange pageNamesSpec)) pageNamesCard

/-- THE TIED CARD OF 'lagleashlaw10.PageCalls'. -/
def pageCallsCard : Claim7 := { stood := { row := pageCallsRow, standIns := [], harness := (true, "59fdc3bc6a60229a8958676c09baef84107e6aa5ee60a040732494b5d6c12372"), looks := false }, kinds := [], alts := [], laidByText := true, laidKinds := [.data], laidTests := true, laidLooks := .later }
def PageCallsCardSaid : Prop := Claim7.holds Tryd.pinned (.plain (OpenSpec.ofChange pageCallsSpec)) pageCallsCard

/-- THE TIED CARD OF 'lagleashlaw10.PageReads'. -/
def pageReadsCard : Claim7 := { stood := { row := pageReadsRow, standIns := [], harness := (true, "59fdc3bc6a60229a8958676c09baef84107e6aa5ee60a040732494b5d6c12372"), looks := false }, kinds := [], alts := [], laidByText := true, laidKinds := [.data], laidTests := true, laidLooks := .later }
def PageReadsCardSaid : Prop := Claim7.holds Tryd.pinned (.plain (OpenSpec.ofChange pageReadsSpec)) pageReadsCard

/-- THE TIED CARD OF 'lagleashlaw10.PageBack'. -/
def pageBackCard : Claim7 := { stood := { row := pageBackRow, standIns := [], harness := (true, "59fdc3bc6a60229a8958676c09baef84107e6aa5ee60a040732494b5d6c12372"), looks := false }, kinds := [], alts := [], laidByText := true, laidKinds := [.data], laidTests := true, laidLooks := .later }
def PageBackCardSaid : Prop := Claim7.holds Tryd.pinned (.plain (OpenSpec.ofChange pageBackSpec)) pageBackCard

/-- THE TIED CARD OF 'lagleashlaw10.PageUnlike'. -/
def pageUnlikeCard : Claim7 := { stood := { row := pageUnlikeRow, standIns := [], harness := (true, "59fdc3bc6a60229a8958676c09baef84107e6aa5ee60a040732494b5d6c12372"), looks := false }, kinds := [], alts := [], laidByText := true, laidKinds := [.data], laidTests := true, laidLooks := .later }
def PageUnlikeCardSaid : Prop := Claim7.holds Tryd.pinned (.plain (OpenSpec.ofChange pageUnlikeSpec)) pageUnlikeCard

/-- THE SECOND FORM's CARD OF 'lagleashlaw10.PageNames'. -/
def pageNamesUptoCard : Claim7 := { stood := { row := pageNamesUptoRow, standIns := [], harness := (true, "59fdc3bc6a60229a8958676c09baef84107e6aa5ee60a040732494b5d6c12372"), looks := false }, kinds := [], alts := [], laidByText := true, laidKinds := [.data], laidTests := true, laidLooks := .later }
def PageNamesUptoCardSaid : Prop := Claim7.holds Tryd.pinned (.plain (OpenSpec.upto pageNamesSpec)) pageNamesUptoCard

/-- THE SECOND FORM's CARD OF 'lagleashlaw10.PageCalls'. -/
def pageCallsUptoCard : Claim7 := { stood := { row := pageCallsUptoRow, standIns := [], harness := (true, "59fdc3bc6a60229a8958676c09baef84107e6aa5ee60a040732494b5d6c12372"), looks := false }, kinds := [], alts := [], laidByText := true, laidKinds := [.data], laidTests := true, laidLooks := .later }
def PageCallsUptoCardSaid : Prop := Claim7.holds Tryd.pinned (.plain (OpenSpec.upto pageCallsSpec)) pageCallsUptoCard

/-- THE SECOND FORM's CARD OF 'lagleashlaw10.PageReads'. -/
def pageReadsUptoCard : Claim7 := { stood := { row := pageReadsUptoRow, standIns := [], harness := (true, "59fdc3bc6a60229a8958676c09baef84107e6aa5ee60a040732494b5d6c12372"), looks := false }, kinds := [], alts := [], laidByText := true, laidKinds := [.data], laidTests := true, laidLooks := .later }
def PageReadsUptoCardSaid : Prop := Claim7.holds Tryd.pinned (.plain (OpenSpec.upto pageReadsSpec)) pageReadsUptoCard

/-- THE SECOND FORM's CARD OF 'lagleashlaw10.PageBack'. -/
def pageBackUptoCard : Claim7 := { stood := { row := pageBackUptoRow, standIns := [], harness := (true, "59fdc3bc6a60229a8958676c09baef84107e6aa5ee60a040732494b5d6c12372"), looks := false }, kinds := [], alts := [], laidByText := true, laidKinds := [.data], laidTests := true, laidLooks := .later }
def PageBackUptoCardSaid : Prop := Claim7.holds Tryd.pinned (.plain (OpenSpec.upto pageBackSpec)) pageBackUptoCard

/-- THE SECOND FORM's CARD OF 'lagleashlaw10.PageUnlike'. -/
def pageUnlikeUptoCard : Claim7 := { stood := { row := pageUnlikeUptoRow, standIns := [], harness := (true, "59fdc3bc6a60229a8958676c09baef84107e6aa5ee60a040732494b5d6c12372"), looks := false }, kinds := [], alts := [], laidByText := true, laidKinds := [.data], laidTests := true, laidLooks := .later }
def PageUnlikeUptoCardSaid : Prop := Claim7.holds Tryd.pinned (.plain (OpenSpec.upto pageUnlikeSpec)) pageUnlikeUptoCard
end Rows
end Go.Proofs.YtdfbagnnieoonaaDoor
