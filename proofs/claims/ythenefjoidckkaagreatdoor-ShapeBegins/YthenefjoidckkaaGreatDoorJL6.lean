/- Joined: ClE ClF. -/
import Derived.Test.YthenefjoidckkaaGreatDoorJL3
import Derived.Test.YthenefjoidckkaaGreatDoorJB
import Derived.Deep.RegionHeld3

/- Classes held against one another: SameMaps, SameClass. -/
namespace Go.Proofs.YthenefjoidckkaaGreatDoor
open Go.RowKit
set_option linter.unusedVariables false
set_option maxRecDepth 100000

end Go.Proofs.YthenefjoidckkaaGreatDoor

/- Classes held against one another: SameClass. -/
namespace Go.Proofs.YthenefjoidckkaaGreatDoor
open Go.RowKit
set_option linter.unusedVariables false
set_option maxRecDepth 100000

end Go.Proofs.YthenefjoidckkaaGreatDoor
