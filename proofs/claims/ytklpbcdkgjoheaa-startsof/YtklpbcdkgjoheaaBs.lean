/- The contract of the document's Shared. -/
import Derived.Test.YtklpbcdkgjoheaaBa
namespace Go.Proofs.Ytklpbcdkgjoheaa
open Go.RowKit
set_option linter.unusedVariables false

end Go.Proofs.Ytklpbcdkgjoheaa
