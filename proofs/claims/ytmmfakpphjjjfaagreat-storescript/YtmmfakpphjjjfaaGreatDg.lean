/- The document's disk: Start. -/
import Derived.Test.YtmmfakpphjjjfaaGreatG19
namespace Go.Proofs.YtmmfakpphjjjfaaGreat
open Go.RowKit Go.Shelf
set_option linter.unusedVariables false

end Go.Proofs.YtmmfakpphjjjfaaGreat
