/- The contracts of the document's Put, Append. -/
import Derived.Test.YtklpbcdkgjoheaaOpar
import Derived.Test.YtklpbcdkgjoheaaOpb
import Derived.Test.YtklpbcdkgjoheaaRefone
namespace Go.Proofs.Ytklpbcdkgjoheaa
open Go.RowKit
set_option linter.unusedVariables false

end Go.Proofs.Ytklpbcdkgjoheaa
