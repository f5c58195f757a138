/- The contracts of the document's Append, Read, Small. -/
import Derived.Test.YtklpbcdkgjoheaaVarint
namespace Go.Proofs.Ytklpbcdkgjoheaa
open Go.RowKit
set_option linter.unusedVariables false

end Go.Proofs.Ytklpbcdkgjoheaa
