/- What was read is written as it was. -/
import Derived.Test.YthenefjoidckkaaGreatDoorJU1
import Derived.Test.YthenefjoidckkaaGreatDoorJG1

namespace Go.Proofs.YthenefjoidckkaaGreatDoor
open Go.RowKit
set_option linter.unusedVariables false
set_option maxRecDepth 100000

end Go.Proofs.YthenefjoidckkaaGreatDoor
