/- Joined: CkA ClK ClG. -/
import Derived.Test.YthenefjoidckkaaGreatDoorJL1
import Derived.Test.YthenefjoidckkaaGreatDoorJB
import Derived.Test.YthenefjoidckkaaGreatDoorJA

/- The landed class: what its functions judge, as plain values. -/
namespace Go.Proofs.YthenefjoidckkaaGreatDoor
open Go.RowKit
set_option linter.unusedVariables false

end Go.Proofs.YthenefjoidckkaaGreatDoor

/- What the walks of stage 8's laws ask of the program's class; works8. -/
namespace Go.Proofs.YthenefjoidckkaaGreatDoor
open Go.RowKit
set_option linter.unusedVariables false
set_option maxRecDepth 100000

end Go.Proofs.YthenefjoidckkaaGreatDoor

/- The document's class: the number of a text, of a class. -/
namespace Go.Proofs.YthenefjoidckkaaGreatDoor
open Go.RowKit
set_option linter.unusedVariables false

end Go.Proofs.YthenefjoidckkaaGreatDoor
