/- bytes.Clone. -/
import Derived.Test.YthndeolibilnnaaDoorGa
import Derived.Test.YthndeolibilnnaaDoorBytes
import Derived.Lib.SliceRun
namespace Go.Proofs.YthndeolibilnnaaDoor
open Go.RowKit
set_option linter.unusedVariables false

end Go.Proofs.YthndeolibilnnaaDoor
