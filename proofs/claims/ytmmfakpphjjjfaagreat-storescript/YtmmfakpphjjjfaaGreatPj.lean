/- The program's disk: Start. -/
import Derived.Test.YtmmfakpphjjjfaaGreatG15
namespace Go.Proofs.YtmmfakpphjjjfaaGreat
open Go.RowKit Go.Shelf
set_option linter.unusedVariables false

end Go.Proofs.YtmmfakpphjjjfaaGreat
